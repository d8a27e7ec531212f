/- ValidSame: its walk. -/
import Derived.Test.YtigmpmichhghdaaHck
namespace Go.Proofs.Ytigmpmichhghdaa
open Go.RowKit
set_option maxRecDepth 100000
theorem own_shape25 {w : World} {base t : Nat} {v : Value} {K : List Tm} (h : w.ownsRow base t 4 v K.length (flatT K)) : ∃ a n c, v = .slice a n c ∧ n = K.length := by
  rcases h.2 with ⟨rfl, h0⟩ | ⟨g, cap, cur, rfl, _⟩
  · exact ⟨none, 0, 0, rfl, h0.symm⟩
  · exact ⟨_, _, _, rfl, rfl⟩
/-- Where the law's loop stands. -/
structure SamI (N : Nat) (ms : List Tm) (bh : Nat) (S T : Nat → Prop) (K : List Tm) (w : World) (kv : Value) : Prop where
  hist : Hist w S T bh (wrF K) (K.map Tm.com) (K.getLast?.map Tm.com)
  low : ∀ b, T b → N ≤ b
  row : w.ownsRow N 25 4 kv K.length (flatT K)
  mem : ∀ x ∈ K, x ∈ ms
  sort : SortC K
theorem SamI.below {N : Nat} {ms : List Tm} {bh : Nat} {S T : Nat → Prop} {K : List Tm} {w w' : World} {kv : Value} (h : SamI N ms bh S T K w kv) (hb : Below w.heap.size w w') : SamI N ms bh S T K w' kv := ⟨h.hist.below hb, h.low, own_below h.row hb, h.mem, h.sort⟩
theorem SamI.added {N : Nat} {ms : List Tm} {bh : Nat} {S T : Nat → Prop} {K : List Tm} {w w' : World} {kv : Value} (h : SamI N ms bh S T K w kv) (F : Fp T w w') (hN : N ≤ w.heap.size) : Below N w w' ∧ w'.ownsRow N 25 4 kv K.length (flatT K) := by
  refine ⟨F.below hN h.low, own_same h.row (fun g hg => ?_)⟩
  obtain ⟨_, cur, hh⟩ := own_block h.row hg
  exact F.block g (lt_of_block hh) (fun e => h.hist.no g e cur hh)
theorem getLast_max {K : List Tm} (hs : SortC K) {c : Int} (h : okA (K.getLast?.map Tm.com) c = true) : ∀ x ∈ K, x.com ≤ c := by
  intro x hx
  obtain ⟨i, hi, he⟩ := List.mem_iff_getElem.1 hx
  have hne : K ≠ [] := fun e => by rw [e] at hx; cases hx
  have hl : K.getLast? = K[K.length - 1]? := List.getLast?_eq_getElem?
  have h1 : K[K.length - 1]? = some K[K.length - 1] := List.getElem?_eq_getElem (by omega)
  rw [hl, h1] at h
  have h2 : K[K.length - 1].com < c := by simpa [okA] using h
  rcases Nat.lt_or_ge i (K.length - 1) with h3 | h3
  · have := hs i (K.length - 1) x _ h3 (by rw [List.getElem?_eq_getElem hi, he]) h1
    omega
  · have e : i = K.length - 1 := by omega
    subst e
    rw [← he]
    omega
theorem sortC_snoc {K : List Tm} {m : Tm} (h : SortC K) (hm : ∀ x ∈ K, x.com ≤ m.com) : SortC (K ++ [m]) := by
  intro i j x y hij hx hy
  rcases Nat.lt_or_ge j K.length with hj | hj
  · rw [List.getElem?_append_left hj] at hy
    rw [List.getElem?_append_left (by omega)] at hx
    exact h i j x y hij hx hy
  · have hj' : j = K.length := by
      have := (List.getElem?_eq_some_iff.1 hy).1
      rw [List.length_append] at this
      simp at this
      omega
    subst hj'
    rw [List.getElem?_append_right (Nat.le_refl _)] at hy
    simp at hy
    subst hy
    rw [List.getElem?_append_left hij] at hx
    exact hm x (List.mem_of_getElem? hx)
theorem SamI.push {N : Nat} {ms : List Tm} {bh : Nat} {S T S' T' : Nat → Prop} {K : List Tm} {w w' w'' : World} {kv kv' : Value} {x m1 : Tm} (h : SamI N ms bh S T K w kv) (hx : x ∈ ms) (hd : m1.d = x.d) (hok : okA (K.getLast?.map Tm.com) m1.com = true) (H : Hist w' S' T' bh (putF m1.com m1.ws (wrF K)) (K.map Tm.com ++ [m1.com]) (some m1.com)) (hT : ∀ b, T' b → N ≤ b) (hr : w'.ownsRow N 25 4 kv K.length (flatT K)) (G : w'.grownBy w'' kv.ownBlock) (hr' : w''.ownsRow N 25 4 kv' (K ++ [x]).length (flatT (K ++ [x]))) : SamI N ms bh S' T' (K ++ [x]) w'' kv' := by
  have e1 : m1.com = x.com := congrArg Tx.com hd
  have e2 : m1.ws = x.ws := congrArg Tx.ws hd
  rw [e1] at hok
  rw [e1, e2] at H
  refine ⟨?_, hT, hr', fun z hz => ?_, sortC_snoc h.sort (getLast_max h.sort hok)⟩
  · have h1 := H.same (w' := w'') G.size (fun b hb => G.block b (H.lt b hb) (fun e => by
      obtain ⟨_, cur, hh⟩ := own_block hr e.symm
      exact H.no b hb cur hh))
    rw [wrF_snoc, List.map_append, List.getLast?_concat]
    exact h1
  · rcases List.mem_append.1 hz with hz | hz
    · exact h.mem z hz
    · rw [List.mem_singleton] at hz
      rw [hz]
      exact hx
set_option maxHeartbeats 8000000 in
theorem same_walk {w : World} {da : Option Addr} {dn dc : Nat} {ms : List Tm} {m : Tm} (h : IsTs w da dn dc ms) (hdn : dn ≤ 1048576) (hsh : Short ms) (hm : m.In w) (hmr : m.rn ≤ 1048576) (hmw : m.wn ≤ 1048576) :
    Calls Try.prog 7 #[.slice da dn dc, .agg #[.int .i64 m.base, .int .i64 m.com, .slice m.ra m.rn m.rc, .slice m.wa m.wn m.wc]] w fun e w' => e = .returned (.bool true) ∧ Below w.heap.size w w' := by
  have B1 : Below w.heap.size w (w.alloc (txB m 25)) := box_below
  have E1 : (w.alloc (txB m 25)).heap[w.heap.size]? = some (txB m 25) := new1 _ _
  have hin1 := hm.below B1
  have hI1 := h.below B1
  have hnew := hnew_any (w.alloc (txB m 25))
  have hsz : Hid (ms.length = dn) := h.size
  go_enter Try.func7, Try.ntmps7
  go_upto_region 1 with fail
  unfold txB at B1 E1 hin1 hI1 hnew
  generalize w.alloc (.cells #[.int .i64 m.base, .int .i64 m.com, .slice m.ra m.rn m.rc, .slice m.wa m.wn m.wc] 25) = w1 at *
  have hwl1 := lt_of_block E1
  clear h hm
  go_wp2_with fail
  refine hnew.mono ?_
  rintro e w2 ⟨rfl, H2, B2⟩
  have I2 : SamI w1.heap.size ms w1.heap.size (fun b => b = w1.heap.size) (fun b => b = w1.heap.size) [] w2 (.slice none 0 0) := ⟨H2, fun b hb => by rw [hb]; exact Nat.le_refl _, World.ownsRow_nil _ _ _ _, fun x hx => (by cases hx), fun i j x y _ hx => (by cases hx)⟩
  clear hnew H2
  go_wp2
  go_loopw [6, 7] (fun kv iv wr => ∃ (k : Nat) (S T : Nat → Prop) (K : List Tm), k ≤ dn ∧ k ≤ 50 ∧ iv = .int .i64 (k : Int) ∧ K.length ≤ k ∧ SamI w1.heap.size ms w1.heap.size S T K wr kv ∧ Below w1.heap.size w1 wr) (fun _ iv _ => 50 - (intOf iv).toNat)
  case atStart => exact ⟨0, _, _, [], by omega, by omega, rfl, Nat.le_refl _, I2, B2⟩
  case round =>
    obtain ⟨k, S, T, K, hk, hk50, rfl, hKk, I, B⟩ := hrel
    go_upto_region 6 with fail
    go_cut [22] from 15 to 47 (fun v wx => v = .bool (decide (k < dn ∧ k < 50)) ∧ wx = wr)
    case first =>
      by_cases h1 : k < dn
      · have hlt1 : (k : Int) < (dn : Int) := by omega
        by_cases h2 : k < 50
        · have hlt2 : (k : Int) < 50 := by omega
          go_wp2
          go_meet
          exact ⟨by simp [h1, h2], rfl⟩
        · have hlt2 : ¬ (k : Int) < 50 := by omega
          go_wp2
          go_meet
          exact ⟨by simp [h1, h2], rfl⟩
      · have hlt1 : ¬ (k : Int) < (dn : Int) := by omega
        go_wp2
        go_meet
        exact ⟨by simp [h1], rfl⟩
    case rest =>
      obtain ⟨rfl, rfl⟩ := hcut
      by_cases hgo : k < dn ∧ k < 50
      · have hgd : decide (k < dn ∧ k < 50) = true := decide_eq_true hgo
        obtain ⟨b, off, x, rfl, _, c0, c1, c2, c3, hx, hxin⟩ := (hI1.below B).at_ k hgo.1
        have hkI : (k : Int) < (dn : Int) := by omega
        have hxm : x ∈ ms := List.mem_of_getElem? hx.out
        obtain ⟨hxr, hxw⟩ := hsh x hxm
        have hwk : IntKind.i64.wrap ((k : Int) + 1) = (k : Int) + 1 := by rw [IntKind.wrap_i64]; omega
        by_cases hp : 0 < x.com
        · have hone := one_any hxin hxr hxw
          rw [hgd]
          go_wp2_with fail
          refine hone.mono ?_
          rintro e w4 ⟨m1, rfl, hm1, O1, O2, S1, B4⟩
          have I4 := I.below B4
          have B5 := below_size B B.size B4
          have hwn1 : m1.wn ≤ 1048576 := by
            have q2 := S1.w.1.size
            have e3 : m1.ws = x.ws := congrArg Tx.ws hm1
            have q4 := hxin.w.1.size
            rw [e3] at q2
            omega
          have hap : ∀ b off, m1.wa = some ⟨b, off, none⟩ → 0 < m1.wn → ¬ T b := fun b off ha _ hT => by
            have h1 := (own_block O2.1 (g := b) (by rw [ha]; rfl)).1
            have h2 := I.hist.lt b hT
            omega
          have hc64 := S1.c64
          cases hok : okA (K.getLast?.map Tm.com) m1.com with
          | false =>
            have had := add_no I4.hist S1.inn hok
            clear hone O1 O2 c0 c1 c2 c3
            go_wp2_with fail
            refine had.mono ?_
            rintro e w5 ⟨rfl, B6⟩
            have I5 := I4.below B6
            have B7 := below_size B5 B5.size B6
            clear had I I4 S1
            go_wp2
            go_roundw
            case rel => exact ⟨k + 1, S, T, K, by omega, by omega, by go_num, by omega, I5, B7⟩
            case measure => simp [intOf]; omega
          | true =>
            have had := add_ok I4.hist S1.inn hok hap hwn1 hc64 (by rw [List.length_map]; omega) (fun o => by have := wrF_len K o; omega)
            clear hone O1 c0 c1 c2 c3
            go_wp2_with fail
            refine had.mono ?_
            rintro e w5 ⟨rfl, S', T', H5, F5, hT5⟩
            obtain ⟨B6, J5⟩ := I4.added F5 B5.size
            have B7 := B5.trans (B6.mono (Nat.le_refl _))
            obtain ⟨b, off, x', he, _, c0, c1, c2, c3, hx', hxin'⟩ := (hI1.below B7).at_ k hgo.1
            cases he
            obtain rfl : x' = x := by rw [hx.out] at hx'; exact (Option.some.inj hx'.out).symm
            have hstx : St w1.heap.size w5 x' := St.below (hI1.each x' hxm) B7
            have hO5 : OwnT w1.heap.size w5 w1.heap.size 25 u6 K := ⟨J5, fun z hz => St.below (hI1.each z (I.mem z hz)) B7⟩
            have hO6 := hO5.below (box_below (o := .cells #[.int .i64 x'.base, .int .i64 x'.com, .slice x'.ra x'.rn x'.rc, .slice x'.wa x'.wn x'.wc] 25))
            have hst6 := St.below hstx (box_below (o := .cells #[.int .i64 x'.base, .int .i64 x'.com, .slice x'.ra x'.rn x'.rc, .slice x'.wa x'.wn x'.wc] 25))
            have B8 := below_size B7 B7.size (box_below (o := .cells #[.int .i64 x'.base, .int .i64 x'.com, .slice x'.ra x'.rn x'.rc, .slice x'.wa x'.wn x'.wc] 25))
            have H6 := H5.below (box_below (o := .cells #[.int .i64 x'.base, .int .i64 x'.com, .slice x'.ra x'.rn x'.rc, .slice x'.wa x'.wn x'.wc] 25))
            clear had hxin' hx' O2 S1
            go_wp2_with (at_builtin; refine app_txn Try.underlying22 Try.info25 (by decide) _ rfl _ _ rfl w1.heap.size _ _ rfl hO6 _ _ rfl lit_cells hst6 (by omega) B8.size (Nat.le_refl _) ?_)
            intro a7 n7 c7 w7 O7 B9 G7
            have I7 := I4.push (x := x') hxm hm1 hok H6 (fun b hb => (hT5 b hb).elim (I4.low b) (fun h => Nat.le_trans B5.size h)) hO6.1 G7 O7.1
            have B10 := B8.trans B9
            clear O7 B9 G7 H6 hO6 hst6 hO5 hstx J5 H5 F5 I I4 c0 c1 c2 c3
            go_wp2
            go_roundw
            case rel => exact ⟨k + 1, S', T', K ++ [x'], by omega, by omega, by go_num, by rw [List.length_append]; simp; omega, I7, B10⟩
            case measure => simp [intOf]; omega
        · have I5 := I
          rw [hgd]
          clear c0 c2 c3
          go_wp2
          go_roundw
          case rel => exact ⟨k + 1, S, T, K, by omega, by omega, by go_num, by omega, I5, B⟩
          case measure => simp [intOf]; omega
      · have hgd : decide (k < dn ∧ k < 50) = false := decide_eq_false hgo
        rw [hgd]
        obtain ⟨ka, kn, kc, rfl, hkn⟩ := own_shape25 I.row
        replace hkn : Hid (kn = K.length) := hkn
        have E2 := (B.block _ hwl1).trans E1
        obtain ⟨y0, y1, y2, y3, _⟩ := tx_cells (m := m) (t := 25) E2
        have B5 : Below w.heap.size w wc := B1.trans (B.mono B1.size)
        by_cases hneg : m.base < 0
        · have hk2 := known_true wc
          clear I y1 y2 y3
          go_wp2_with fail
          refine hk2.mono ?_
          rintro e w9 ⟨rfl, B10⟩
          have B11 := below_size B5 B5.size B10
          go_wp2
          go_ret
          exact ⟨rfl, B11⟩
        · have hone := one_any (hin1.below B) hmr hmw
          have H := I.hist
          have hst : ∀ x ∈ K, St w1.heap.size wc x := fun x hx => St.below (hI1.each x (I.mem x hx)) B
          have hIK : IsTs wc ka kn kc K := OwnT.isTs (N := w1.heap.size) (base := w1.heap.size) (t := 25) ⟨I.row, hst⟩
          have hshK : Short K := fun x hx => hsh x (I.mem x hx)
          have WK : Wr K (wrF K) := ⟨wrF_rise K I.sort, fun o => by have := wrF_len K o; omega, wrF_mem K⟩
          obtain ⟨r0, hr0⟩ : ∃ r0, Hid (chkR (K.map Tm.d) m.base m.rs m.ws = r0) := ⟨_, rfl⟩
          have hinr := hin1.below B
          have hdnK : kn ≤ 1048576 := by rw [hkn.out]; omega
          go_wp2_with fail
          refine hone.mono ?_
          rintro e w4 ⟨m1, rfl, hm1, O1, O2, S1, B4⟩
          have hsz1 : m1.rn ≤ 1048576 ∧ m1.wn ≤ 1048576 := by
            have q1 := S1.r.1.size
            have q2 := S1.w.1.size
            have e2 : m1.rs = m.rs := congrArg Tx.rs hm1
            have e3 : m1.ws = m.ws := congrArg Tx.ws hm1
            have q3 := hinr.r.1.size
            have q4 := hinr.w.1.size
            rw [e2] at q1
            rw [e3] at q2
            omega
          have hck := hcheck_any (H.below B4) WK.rise WK.len S1.inn hsz1.1 hsz1.2
          have hres : Hid (aheadR (wrF K) m1.base m1.rs m1.ws (fun _ => true) = r0) := by
            unfold Hid
            rw [chk_eq WK, show m1.base = m.base from congrArg Tx.base hm1, show m1.rs = m.rs from congrArg Tx.rs hm1, show m1.ws = m.ws from congrArg Tx.ws hm1]
            exact hr0.out
          rw [hres.out] at hck
          unfold chkV at hck
          have H4 := H.below B4
          have B6 := below_size B5 B5.size B4
          have hI4 := hIK.below B4
          have hin4 := hinr.below B4
          have E4 := (B4.block _ (Nat.lt_of_lt_of_le hwl1 B.size)).trans E2
          clear hone hres O1 O2 S1 hsz1 hst hIK H I y0 y1 y2 y3 B4 hinr
          go_wp2_with fail
          refine hck.mono ?_
          rintro e w6 ⟨rfl, B4⟩
          have H7 := H4.below B4
          have B7 := below_size B6 B6.size B4
          have hI := hI4.below B4
          have hin := hin4.below B4
          have E6 := (B4.block _ (lt_of_block E4)).trans E4
          have hwl := lt_of_block E6
          have hin0 := hI.each
          clear hck H4 B6 hI4 hin4 E4 B4 E2
          obtain ⟨y0, y1, y2, y3, _⟩ := tx_cells (m := m) (t := 25) E6
          go_upto_region 13 with fail
          refine wp_region_inv' (fun A D a w' => ∃ v60 v61 v62 v63 v64 v59 v65 v66 v10 v11 ga gn gc gm mm, a = ((((((((((A.put (some 60) v60).put (some 61) v61).put (some 62) v62).put (some 63) v63).put (some 64) v64).put (some 59) v59).put (some 65) v65).put (some 66) v66).put (some 10) v10).put (some 11) v11) ∧ Below w6.heap.size w6 w' ∧ (D 0 → v60 = .slice ka kn kc) ∧ (D 1 → v61 = .slice ga gn gc) ∧ (D 2 → v62 = .agg #[.int .i64 (Tm.base m), .int .i64 (Tm.com m), .slice (Tm.ra m) (Tm.rn m) (Tm.rc m), .slice (Tm.wa m) (Tm.wn m) (Tm.wc m)]) ∧ (D 3 → v63 = .agg #[.int .i64 (Tm.base mm), .int .i64 (Tm.com mm), .slice (Tm.ra mm) (Tm.rn mm) (Tm.rc mm), .slice (Tm.wa mm) (Tm.wn mm) (Tm.wc mm)]) ∧ (D 4 → v64 = .tuple #[.int .i64 (r0.getD 0), .int .i64 (eN r0)]) ∧ (D 5 → v59 = .tuple #[.int .i64 (r0.getD 0), .int .i64 (eN r0)]) ∧ (D 6 → v65 = .int .i64 (r0.getD 0)) ∧ (D 7 → v66 = .int .i64 (eN r0)) ∧ (D 8 → v10 = .int .i64 (r0.getD 0)) ∧ (D 9 → v11 = .int .i64 (eN r0)) ∧ (D 1 → IsTs w' ga gn gc gm ∧ List.map Tm.d gm = K.map Tm.d) ∧ (D 3 → Tm.In w' mm ∧ Tm.d mm = m.d)) (by kernel_rfl) (by kernel_rfl) ?mono ?start ?step ?done
          case mono =>
            rintro D D' a w' hD ⟨v60, v61, v62, v63, v64, v59, v65, v66, v10, v11, ga, gn, gc, gm, mm, ha, hB, e0, e1, e2, e3, e4, e5, e6, e7, e8, e9, hG, hM⟩
            exact ⟨v60, v61, v62, v63, v64, v59, v65, v66, v10, v11, ga, gn, gc, gm, mm, ha, hB, fun h => e0 ((hD 0).2 h), fun h => e1 ((hD 1).2 h), fun h => e2 ((hD 2).2 h), fun h => e3 ((hD 3).2 h), fun h => e4 ((hD 4).2 h), fun h => e5 ((hD 5).2 h), fun h => e6 ((hD 6).2 h), fun h => e7 ((hD 7).2 h), fun h => e8 ((hD 8).2 h), fun h => e9 ((hD 9).2 h), fun h => hG ((hD 1).2 h), fun h => hM ((hD 3).2 h)⟩
          case start => exact ⟨undef, undef, undef, undef, undef, undef, undef, undef, undef, undef, none, 0, 0, [], default, by kernel_rfl, (Below.refl _ _).drew, fun h => h.elim, fun h => h.elim, fun h => h.elim, fun h => h.elim, fun h => h.elim, fun h => h.elim, fun h => h.elim, fun h => h.elim, fun h => h.elim, fun h => h.elim, fun h => h.elim, fun h => h.elim⟩
          case step =>
            intro i o ho D a w' hI hn hcl hd
            obtain ⟨v60, v61, v62, v63, v64, v59, v65, v66, v10, v11, ga, gn, gc, gm, mm, ha, hB, e0, e1, e2, e3, e4, e5, e6, e7, e8, e9, hG, hM⟩ := hI
            match i, ho with
            | 0, ho =>
              cases Option.some.inj ho
              have ev : a.tmps[6]?.getD undef = .slice ka kn kc := by rw [ha]; kernel_rfl
              refine wp_value (w' := w') (v := .slice ka kn kc) (by simp [execOp, ev, go_sem]) ?_
              exact ⟨(.slice ka kn kc), v61, v62, v63, v64, v59, v65, v66, v10, v11, ga, gn, gc, gm, mm, by rw [ha]; kernel_rfl, hB, fun _ => rfl, fun h => e1 (h.resolve_left (by decide)), fun h => e2 (h.resolve_left (by decide)), fun h => e3 (h.resolve_left (by decide)), fun h => e4 (h.resolve_left (by decide)), fun h => e5 (h.resolve_left (by decide)), fun h => e6 (h.resolve_left (by decide)), fun h => e7 (h.resolve_left (by decide)), fun h => e8 (h.resolve_left (by decide)), fun h => e9 (h.resolve_left (by decide)), fun h => hG (h.resolve_left (by decide)), fun h => hM (h.resolve_left (by decide))⟩
            | 1, ho =>
              cases Option.some.inj ho
              have ev : a.tmps[60]?.getD undef = .slice ka kn kc := by rw [ha, e0 (hd ⟨0, .data⟩ (by simp) rfl)]; kernel_rfl
              refine wp_enter (f := 9) (args := #[.slice ka kn kc]) (by simp [execOp, ev, go_sem]) ?_
              refine (given_any (hI.below hB) hdnK hshK).mono ?_
              rintro e w6 ⟨ga', gn', gc', gm', rfl, OG, hgd, B6⟩
              refine ⟨_, rfl, ?_⟩
              exact ⟨v60, (.slice ga' gn' gc'), v62, v63, v64, v59, v65, v66, v10, v11, ga', gn', gc', gm', mm, by rw [ha]; kernel_rfl, below_size hB hB.size B6, fun h => e0 (h.resolve_left (by decide)), fun _ => rfl, fun h => e2 (h.resolve_left (by decide)), fun h => e3 (h.resolve_left (by decide)), fun h => e4 (h.resolve_left (by decide)), fun h => e5 (h.resolve_left (by decide)), fun h => e6 (h.resolve_left (by decide)), fun h => e7 (h.resolve_left (by decide)), fun h => e8 (h.resolve_left (by decide)), fun h => e9 (h.resolve_left (by decide)), fun _ => ⟨OG.isTs, hgd⟩, fun h => ⟨(hM (h.resolve_left (by decide))).1.below B6, (hM (h.resolve_left (by decide))).2⟩⟩
            | 2, ho =>
              cases Option.some.inj ho
              have ev : a.tmps[3]?.getD undef = .pointer (some ⟨w.heap.size, 0, none⟩) := by rw [ha]; kernel_rfl
              have z0 := (hB.cell (p := ⟨w.heap.size, 0, none⟩) hwl).trans y0
              have z1 := (hB.cell (p := ⟨w.heap.size, 1, none⟩) hwl).trans y1
              have z2 := (hB.cell (p := ⟨w.heap.size, 2, none⟩) hwl).trans y2
              have z3 := (hB.cell (p := ⟨w.heap.size, 3, none⟩) hwl).trans y3
              refine wp_value (w' := w') (v := .agg #[.int .i64 (Tm.base m), .int .i64 (Tm.com m), .slice (Tm.ra m) (Tm.rn m) (Tm.rc m), .slice (Tm.wa m) (Tm.wn m) (Tm.wc m)]) (by simp [execOp, ev, go_sem, z0, z1, z2, z3]) ?_
              exact ⟨v60, v61, (.agg #[.int .i64 (Tm.base m), .int .i64 (Tm.com m), .slice (Tm.ra m) (Tm.rn m) (Tm.rc m), .slice (Tm.wa m) (Tm.wn m) (Tm.wc m)]), v63, v64, v59, v65, v66, v10, v11, ga, gn, gc, gm, mm, by rw [ha]; kernel_rfl, hB, fun h => e0 (h.resolve_left (by decide)), fun h => e1 (h.resolve_left (by decide)), fun _ => rfl, fun h => e3 (h.resolve_left (by decide)), fun h => e4 (h.resolve_left (by decide)), fun h => e5 (h.resolve_left (by decide)), fun h => e6 (h.resolve_left (by decide)), fun h => e7 (h.resolve_left (by decide)), fun h => e8 (h.resolve_left (by decide)), fun h => e9 (h.resolve_left (by decide)), fun h => hG (h.resolve_left (by decide)), fun h => hM (h.resolve_left (by decide))⟩
            | 3, ho =>
              cases Option.some.inj ho
              have ev : a.tmps[62]?.getD undef = .agg #[.int .i64 (Tm.base m), .int .i64 (Tm.com m), .slice (Tm.ra m) (Tm.rn m) (Tm.rc m), .slice (Tm.wa m) (Tm.wn m) (Tm.wc m)] := by rw [ha, e2 (hd ⟨2, .data⟩ (by simp) rfl)]; kernel_rfl
              refine wp_enter (f := 11) (args := #[.agg #[.int .i64 (Tm.base m), .int .i64 (Tm.com m), .slice (Tm.ra m) (Tm.rn m) (Tm.rc m), .slice (Tm.wa m) (Tm.wn m) (Tm.wc m)]]) (by simp [execOp, ev, go_sem]) ?_
              refine (one_any (hin.below hB) hmr hmw).mono ?_
              rintro e w6 ⟨mm', rfl, hmd, _, _, SM, B6⟩
              refine ⟨_, rfl, ?_⟩
              exact ⟨v60, v61, v62, (.agg #[.int .i64 (Tm.base mm'), .int .i64 (Tm.com mm'), .slice (Tm.ra mm') (Tm.rn mm') (Tm.rc mm'), .slice (Tm.wa mm') (Tm.wn mm') (Tm.wc mm')]), v64, v59, v65, v66, v10, v11, ga, gn, gc, gm, mm', by rw [ha]; kernel_rfl, below_size hB hB.size B6, fun h => e0 (h.resolve_left (by decide)), fun h => e1 (h.resolve_left (by decide)), fun h => e2 (h.resolve_left (by decide)), fun _ => rfl, fun h => e4 (h.resolve_left (by decide)), fun h => e5 (h.resolve_left (by decide)), fun h => e6 (h.resolve_left (by decide)), fun h => e7 (h.resolve_left (by decide)), fun h => e8 (h.resolve_left (by decide)), fun h => e9 (h.resolve_left (by decide)), fun h => ⟨(hG (h.resolve_left (by decide))).1.below B6, (hG (h.resolve_left (by decide))).2⟩, fun _ => ⟨SM.inn, hmd⟩⟩
            | 4, ho =>
              cases Option.some.inj ho
              have ev : a.tmps[61]?.getD undef = .slice ga gn gc := by rw [ha, e1 (hd ⟨1, .data⟩ (by simp) rfl)]; kernel_rfl
              have ev' : a.tmps[63]?.getD undef = .agg #[.int .i64 (Tm.base mm), .int .i64 (Tm.com mm), .slice (Tm.ra mm) (Tm.rn mm) (Tm.rc mm), .slice (Tm.wa mm) (Tm.wn mm) (Tm.wc mm)] := by rw [ha, e3 (hd ⟨3, .data⟩ (by simp) rfl)]; kernel_rfl
              obtain ⟨G1, G2⟩ := hG (hd ⟨1, .data⟩ (by simp) rfl)
              obtain ⟨M1, M2⟩ := hM (hd ⟨3, .data⟩ (by simp) rfl)
              have hck := check_as hI.size hdnK hshK G1 G2 hin M1 M2 hmr hmw
              rw [hr0.out] at hck
              unfold chkV at hck
              refine wp_enter (f := 10) (args := #[.slice ga gn gc, .agg #[.int .i64 (Tm.base mm), .int .i64 (Tm.com mm), .slice (Tm.ra mm) (Tm.rn mm) (Tm.rc mm), .slice (Tm.wa mm) (Tm.wn mm) (Tm.wc mm)]]) (by simp [execOp, ev, ev', go_sem]) ?_
              refine (hck).mono ?_
              rintro e w6 ⟨rfl, B6⟩
              refine ⟨_, rfl, ?_⟩
              exact ⟨v60, v61, v62, v63, (.tuple #[.int .i64 (r0.getD 0), .int .i64 (eN r0)]), v59, v65, v66, v10, v11, ga, gn, gc, gm, mm, by rw [ha]; kernel_rfl, below_size hB hB.size B6, fun h => e0 (h.resolve_left (by decide)), fun h => e1 (h.resolve_left (by decide)), fun h => e2 (h.resolve_left (by decide)), fun h => e3 (h.resolve_left (by decide)), fun _ => rfl, fun h => e5 (h.resolve_left (by decide)), fun h => e6 (h.resolve_left (by decide)), fun h => e7 (h.resolve_left (by decide)), fun h => e8 (h.resolve_left (by decide)), fun h => e9 (h.resolve_left (by decide)), fun h => ⟨(hG (h.resolve_left (by decide))).1.below B6, (hG (h.resolve_left (by decide))).2⟩, fun h => ⟨(hM (h.resolve_left (by decide))).1.below B6, (hM (h.resolve_left (by decide))).2⟩⟩
            | 5, ho =>
              cases Option.some.inj ho
              have ev : a.tmps[64]?.getD undef = .tuple #[.int .i64 (r0.getD 0), .int .i64 (eN r0)] := by rw [ha, e4 (hd ⟨4, .data⟩ (by simp) rfl)]; kernel_rfl
              refine wp_value (w' := w') (v := .tuple #[.int .i64 (r0.getD 0), .int .i64 (eN r0)]) (by simp [execOp, ev, go_sem]) ?_
              exact ⟨v60, v61, v62, v63, v64, (.tuple #[.int .i64 (r0.getD 0), .int .i64 (eN r0)]), v65, v66, v10, v11, ga, gn, gc, gm, mm, by rw [ha]; kernel_rfl, hB, fun h => e0 (h.resolve_left (by decide)), fun h => e1 (h.resolve_left (by decide)), fun h => e2 (h.resolve_left (by decide)), fun h => e3 (h.resolve_left (by decide)), fun h => e4 (h.resolve_left (by decide)), fun _ => rfl, fun h => e6 (h.resolve_left (by decide)), fun h => e7 (h.resolve_left (by decide)), fun h => e8 (h.resolve_left (by decide)), fun h => e9 (h.resolve_left (by decide)), fun h => hG (h.resolve_left (by decide)), fun h => hM (h.resolve_left (by decide))⟩
            | 6, ho =>
              cases Option.some.inj ho
              have ev : a.tmps[59]?.getD undef = .tuple #[.int .i64 (r0.getD 0), .int .i64 (eN r0)] := by rw [ha, e5 (hd ⟨5, .data⟩ (by simp) rfl)]; kernel_rfl
              refine wp_value (w' := w') (v := .int .i64 (r0.getD 0)) (by simp [execOp, ev, go_sem]) ?_
              exact ⟨v60, v61, v62, v63, v64, v59, (.int .i64 (r0.getD 0)), v66, v10, v11, ga, gn, gc, gm, mm, by rw [ha]; kernel_rfl, hB, fun h => e0 (h.resolve_left (by decide)), fun h => e1 (h.resolve_left (by decide)), fun h => e2 (h.resolve_left (by decide)), fun h => e3 (h.resolve_left (by decide)), fun h => e4 (h.resolve_left (by decide)), fun h => e5 (h.resolve_left (by decide)), fun _ => rfl, fun h => e7 (h.resolve_left (by decide)), fun h => e8 (h.resolve_left (by decide)), fun h => e9 (h.resolve_left (by decide)), fun h => hG (h.resolve_left (by decide)), fun h => hM (h.resolve_left (by decide))⟩
            | 7, ho =>
              cases Option.some.inj ho
              have ev : a.tmps[59]?.getD undef = .tuple #[.int .i64 (r0.getD 0), .int .i64 (eN r0)] := by rw [ha, e5 (hd ⟨5, .data⟩ (by simp) rfl)]; kernel_rfl
              refine wp_value (w' := w') (v := .int .i64 (eN r0)) (by simp [execOp, ev, go_sem]) ?_
              exact ⟨v60, v61, v62, v63, v64, v59, v65, (.int .i64 (eN r0)), v10, v11, ga, gn, gc, gm, mm, by rw [ha]; kernel_rfl, hB, fun h => e0 (h.resolve_left (by decide)), fun h => e1 (h.resolve_left (by decide)), fun h => e2 (h.resolve_left (by decide)), fun h => e3 (h.resolve_left (by decide)), fun h => e4 (h.resolve_left (by decide)), fun h => e5 (h.resolve_left (by decide)), fun h => e6 (h.resolve_left (by decide)), fun _ => rfl, fun h => e8 (h.resolve_left (by decide)), fun h => e9 (h.resolve_left (by decide)), fun h => hG (h.resolve_left (by decide)), fun h => hM (h.resolve_left (by decide))⟩
            | 8, ho =>
              cases Option.some.inj ho
              have ev : a.tmps[65]?.getD undef = .int .i64 (r0.getD 0) := by rw [ha, e6 (hd ⟨6, .data⟩ (by simp) rfl)]; kernel_rfl
              refine wp_value (w' := w') (v := .int .i64 (r0.getD 0)) (by simp [execOp, ev, go_sem]) ?_
              exact ⟨v60, v61, v62, v63, v64, v59, v65, v66, (.int .i64 (r0.getD 0)), v11, ga, gn, gc, gm, mm, by rw [ha]; kernel_rfl, hB, fun h => e0 (h.resolve_left (by decide)), fun h => e1 (h.resolve_left (by decide)), fun h => e2 (h.resolve_left (by decide)), fun h => e3 (h.resolve_left (by decide)), fun h => e4 (h.resolve_left (by decide)), fun h => e5 (h.resolve_left (by decide)), fun h => e6 (h.resolve_left (by decide)), fun h => e7 (h.resolve_left (by decide)), fun _ => rfl, fun h => e9 (h.resolve_left (by decide)), fun h => hG (h.resolve_left (by decide)), fun h => hM (h.resolve_left (by decide))⟩
            | 9, ho =>
              cases Option.some.inj ho
              have ev : a.tmps[66]?.getD undef = .int .i64 (eN r0) := by rw [ha, e7 (hd ⟨7, .data⟩ (by simp) rfl)]; kernel_rfl
              refine wp_value (w' := w') (v := .int .i64 (eN r0)) (by simp [execOp, ev, go_sem]) ?_
              exact ⟨v60, v61, v62, v63, v64, v59, v65, v66, v10, (.int .i64 (eN r0)), ga, gn, gc, gm, mm, by rw [ha]; kernel_rfl, hB, fun h => e0 (h.resolve_left (by decide)), fun h => e1 (h.resolve_left (by decide)), fun h => e2 (h.resolve_left (by decide)), fun h => e3 (h.resolve_left (by decide)), fun h => e4 (h.resolve_left (by decide)), fun h => e5 (h.resolve_left (by decide)), fun h => e6 (h.resolve_left (by decide)), fun h => e7 (h.resolve_left (by decide)), fun h => e8 (h.resolve_left (by decide)), fun _ => rfl, fun h => hG (h.resolve_left (by decide)), fun h => hM (h.resolve_left (by decide))⟩
            | i + 10, ho => simp at ho
          case done =>
            rintro D a w' ⟨v60, v61, v62, v63, v64, v59, v65, v66, v10, v11, ga, gn, gc, gm, mm, ha, hB, e0, e1, e2, e3, e4, e5, e6, e7, e8, e9, hG, hM⟩ hall
            obtain rfl := e0 (hall 0 (by decide))
            obtain rfl := e1 (hall 1 (by decide))
            obtain rfl := e2 (hall 2 (by decide))
            obtain rfl := e3 (hall 3 (by decide))
            obtain rfl := e4 (hall 4 (by decide))
            obtain rfl := e5 (hall 5 (by decide))
            obtain rfl := e6 (hall 6 (by decide))
            obtain rfl := e7 (hall 7 (by decide))
            obtain rfl := e8 (hall 8 (by decide))
            obtain rfl := e9 (hall 9 (by decide))
            clear hG hM hall e0 e1 e2 e3 e4 e5 e6 e7 e8 e9
            rw [ha]
            clear ha
            simp only [Act.put, List.setIfInBounds_toArray, List.set_cons_zero, List.set_cons_succ]
            have B9 := B7.trans (hB.mono B7.size)
            have hln := hlen_any (H7.below hB)
            have hlc : Hid (((K.map Tm.com).length : Int) = (kn : Int)) := by unfold Hid; rw [List.length_map, hkn.out]
            rw [hlc.out] at hln
            clear hB H7 hlc hkn hr0 hI hin y0 y1 y2 y3 hin0
            obtain ⟨n0, hn0⟩ : ∃ n0, Hid (r0.getD 0 = n0) := ⟨_, rfl⟩
            obtain ⟨e0, he0⟩ : ∃ e0, Hid (eN r0 = e0) := ⟨_, rfl⟩
            rw [hn0.out, he0.out]
            clear hn0 he0
            go_wp2_with fail
            refine hln.mono ?_
            rintro e w9 ⟨rfl, B10⟩
            have B11 := below_size B9 B9.size B10
            have hk2 := known_true w9
            clear hln
            go_wp2_with fail
            refine hk2.mono ?_
            rintro e w10 ⟨rfl, B12⟩
            have B13 := below_size B11 B11.size B12
            go_wp2
            go_ret
            exact ⟨rfl, B13⟩
end Go.Proofs.Ytigmpmichhghdaa
