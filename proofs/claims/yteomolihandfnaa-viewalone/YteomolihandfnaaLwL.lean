/- The law ViewLast. -/
import Derived.Test.YteomolihandfnaaVkv
namespace Go.Proofs.Yteomolihandfnaa
open Go.RowKit
set_option maxRecDepth 100000
theorem alike_yes' (c : Int) (vs : List (Int × Int)) (bs : List Int) : alike c c vs vs bs bs = true := by simp [alike]
theorem IsRs.below {W w : World} {a : Option Addr} {len cap : Nat} {ms : List Rm} (h : IsRs W a len cap ms) (hb : Below W.heap.size W w) : IsRs w a len cap ms := by
  refine ⟨h.size, h.room, h.most, fun h0 => ?_, fun m hm => ?_⟩
  · obtain ⟨b, off, e, hc⟩ := h.cells h0
    refine ⟨b, off, e, fun i m hm => ?_⟩
    obtain ⟨c0, c1⟩ := hc i m hm
    exact ⟨(hb.cell (lt_of_cell c0)).trans c0, (hb.cell (lt_of_cell c1)).trans c1⟩
  · obtain ⟨h1, h2, h3, h4⟩ := h.ins m hm
    exact ⟨h1, h2.below hb, h3, h4⟩
theorem tb_cls {w : World} {S R : Nat → Prop} {b : Nat} {t : Tab} (h1 : Tb w S R b t) (c k : Int) : -9223372036854775808 ≤ clsO (atO t c k) ∧ clsO (atO t c k) ≤ 9223372036854775807 := by
  unfold atO
  split
  · cases hx : atC (t.m k).vs c with
    | none => simp [clsO]
    | some x =>
      obtain ⟨m1, _, m3⟩ := atC_mem hx
      have h2 := (h1.good.ver k x m1).2.2
      simp only [okCh, m3, okO, okC, Bool.false_eq_true, if_false, Bool.and_eq_true, decide_eq_true_eq] at h2
      show -9223372036854775808 ≤ x.cls ∧ x.cls ≤ 9223372036854775807
      omega
  · simp [clsO]
theorem pk_cls {w : World} {S R V Q : Nat → Prop} {b tb : Nat} {t : Tab} {v : Vw} (h1 : Tb w S R tb t) (h2 : Vb w V Q b tb v) (k : Int) : -9223372036854775808 ≤ clsR (peekR v t k) ∧ clsR (peekR v t k) ≤ 9223372036854775807 := by
  unfold peekR
  cases ho : v.own k with
  | some o =>
    have := okWO_len (h2.good k o ho)
    show -9223372036854775808 ≤ o.cls ∧ o.cls ≤ 9223372036854775807
    omega
  | none =>
    have := tb_cls h1 v.base k
    show -9223372036854775808 ≤ clsR (toOb (atO t v.base k)) ∧ clsR (toOb (atO t v.base k)) ≤ 9223372036854775807
    cases hx : atO t v.base k with
    | none => simp [toOb, clsR]
    | some x => rw [hx] at this; exact this
theorem Hv.cls {W0 W1 w : World} {Y : Nat → Prop} {tb b : Nat} {t : Tab} {v : Vw} (h : Hv W0 W1 Y tb t b v w) (k : Int) : -9223372036854775808 ≤ clsR (peekR v t k) ∧ clsR (peekR v t k) ≤ 9223372036854775807 := by
  obtain ⟨S, R, V, Q, h1, h2, _⟩ := h
  exact pk_cls h1 h2 k
def o7 : Ob := ⟨7, [], []⟩
theorem rm1 (c : Int) (vs : List (Int × Int)) (bs : List Int) : clsR (some ⟨c, vs, bs⟩) = c := rfl
theorem rm2 (c : Int) (vs : List (Int × Int)) (bs : List Int) : vsR (some ⟨c, vs, bs⟩) = vs := rfl
theorem rm3 (c : Int) (vs : List (Int × Int)) (bs : List Int) : bsR (some ⟨c, vs, bs⟩) = bs := rfl
theorem rm4 (o : Ob) : errR (some o) = 0 := rfl
def v7 (L : Int) : Vw := keepV ⟨L, fun _ => false, fun _ => none, 1⟩ 4097 o7
theorem fits7 : fitsE 7 [] 0 = 0 := by decide
theorem make7 (L : Int) : makeN (vw0 L) ⟨7, [], []⟩ = 4097 ∧ makeE (vw0 L) ⟨7, [], []⟩ = 0 ∧ makeV (vw0 L) ⟨7, [], []⟩ = v7 L := by
  have h : fitsE (⟨7, [], []⟩ : Ob).cls (⟨7, [], []⟩ : Ob).vs (⟨7, [], []⟩ : Ob).bs.length = 0 := fits7
  have h2 : (vw0 L).made < 4096 := by simp [vw0]
  refine ⟨?_, ?_, ?_⟩
  · unfold makeN
    rw [if_pos ⟨h, h2⟩]
    rfl
  · unfold makeE
    rw [if_pos h, if_pos h2]
  · unfold makeV
    rw [if_pos ⟨h, h2⟩]
    rfl
theorem put_self {v : Vw} {t : Tab} {a : Int} {o : Ob} (h : putE v t a o = 0) : peekR (putV v t a o) t a = some o := by
  unfold putV
  rw [if_pos h]
  unfold peekR keepV
  simp
theorem put_other {v : Vw} {t : Tab} {a b : Int} {o : Ob} (h : ¬ a = b) : peekR (putV v t a o) t b = peekR v t b := by
  unfold putV
  split
  · unfold peekR keepV
    have : ¬ b = a := fun e => h e.symm
    simp [this]
  · rfl
theorem peek7 (L : Int) (t : Tab) : peekR (v7 L) t 4097 = some o7 := by
  unfold peekR v7 keepV
  simp
set_option maxHeartbeats 32000000 in
theorem viewLast_true {w : World} {la : Option Addr} {ln lc : Nat} {ls : List Rm} (hl : IsRs w la ln lc ls) (a b c : Int) {sa ba : Option Addr} {sn sc bn bc : Nat} {vs : List (Int × Int)} {bs : List Int} (hO : IsO w c sa sn sc ba bn bc vs bs) :
    Calls Try.prog 5 #[.slice la ln lc, .int .i64 a, .int .i64 b, .agg #[.int .i64 c, .slice sa sn sc, .slice ba bn bc]] w fun e w' => e = .returned (.bool true) ∧ Below w.heap.size w w' := by
  have E7 := new1 w (objB c (.slice sa sn sc) (.slice ba bn bc))
  have B1 : Below w.heap.size w (w.alloc (objB c (.slice sa sn sc) (.slice ba bn bc))) := box_below
  have hl1 := hl.below B1
  have hO1 := hO.below B1
  unfold objB at E7 B1 hl1 hO1
  clear hl hO
  go_enter Try.func5, Try.ntmps5
  go_wp2_with fail
  generalize w.alloc (.cells #[.int .i64 c, .slice sa sn sc, .slice ba bn bc] 27) = w1 at *
  obtain ⟨b7, hb7⟩ : ∃ q, q = w.heap.size := ⟨_, rfl⟩
  rw [← hb7] at E7 ⊢
  clear hb7
  replace E7 : w1.heap[b7]? = some (objB c (.slice sa sn sc) (.slice ba bn bc)) := E7
  refine (both_any hl1).mono ?_
  rintro e w2 ⟨tb, ub, u, rfl, hb, _, _⟩
  have hd := hb.hd
  obtain ⟨T, hT⟩ : ∃ T, tabOf (ls.take 12) = T := ⟨_, rfl⟩
  rw [hT] at hd
  clear hb hT hl1
  go_wp2_with fail
  refine (hd_view hd).mono ?_
  rintro e w3 ⟨vb, rfl, hv⟩
  clear hd
  go_wp2_with fail
  refine (hv_makeK hv (isO_nil w1 (c := 7) (by decide))).mono ?_
  rintro e w4 ⟨rfl, hv4, _⟩
  obtain ⟨m1, m2, m3⟩ := make7 T.last
  rw [m1, m2]
  rw [m3] at hv4
  obtain ⟨v4, hv4e⟩ : ∃ q, Hid (q = v7 T.last) := ⟨_, rfl⟩
  rw [← hv4e.out] at hv4
  clear hv m1 m2 m3
  go_wp2_with fail
  refine (hv_peek hv4 b).mono ?_
  rintro e w5 ⟨pa, pn, pc, qa, qn, qc, rfl, oP, oQ, B5⟩
  have kcl := hv4.cls b
  have B6 : Below w5.heap.size w5 (w5.alloc (objB (clsR (peekR v4 T b)) (.slice pa pn pc) (.slice qa qn qc))) := box_below
  have E14 := new1 w5 (objB (clsR (peekR v4 T b)) (.slice pa pn pc) (.slice qa qn qc))
  have hv6 := (hv4.below B5).below B6
  have oP6 := oP.below B6
  have oQ6 := oQ.below B6
  have E76 := (hv6.belowW.block b7 (lt_of_block E7)).trans E7
  obtain ⟨x0, x1, x2, _⟩ := obj_cells E76
  clear hv4 B5 B6 oP oQ
  unfold objB at E14 hv6 oP6 oQ6 x0 x1 x2
  go_wp2_with fail
  generalize w5.alloc (.cells #[.int .i64 (clsR (peekR v4 T b)), .slice pa pn pc, .slice qa qn qc] 27) = w6 at *
  obtain ⟨b14, hb14⟩ : ∃ q, q = w5.heap.size := ⟨_, rfl⟩
  rw [← hb14] at E14 ⊢
  clear hb14 E76 x0 x1 x2
  replace E14 : w6.heap[b14]? = some (objB (clsR (peekR v4 T b)) (.slice pa pn pc) (.slice qa qn qc)) := E14
  refine (hv_putK hv6 a hO1).mono ?_
  rintro e w7 ⟨rfl, hv7, K7⟩
  have E14b := K7.obj E14
  have oP7 := K7.ownV oP6
  have oQ7 := K7.ownB oQ6
  obtain ⟨f, hf⟩ : ∃ q, Hid (putE v4 T a ⟨c, vs, bs⟩ = q) := ⟨_, rfl⟩
  obtain ⟨v5, hv5⟩ : ∃ q, Hid (putV v4 T a ⟨c, vs, bs⟩ = q) := ⟨_, rfl⟩
  rw [hf.out]
  rw [hv5.out] at hv7
  clear hv6 K7 E14 oP6 oQ6
  go_wp2_with fail
  refine (hv_peek hv7 a).mono ?_
  rintro e w8 ⟨ra, rn, rc, ta, tn, tc, rfl, oR, oT, B8⟩
  have B9 : Below w8.heap.size w8 (w8.alloc (objB (clsR (peekR v5 T a)) (.slice ra rn rc) (.slice ta tn tc))) := box_below
  have E17 := new1 w8 (objB (clsR (peekR v5 T a)) (.slice ra rn rc) (.slice ta tn tc))
  have hv9 := (hv7.below B8).below B9
  have E14c := (B9.block b14 (Nat.lt_of_lt_of_le (lt_of_block E14b) B8.size)).trans ((B8.block b14 (lt_of_block E14b)).trans E14b)
  have oP9 := (oP7.below B8).below B9
  have oQ9 := (oQ7.below B8).below B9
  have oR9 := oR.below B9
  have oT9 := oT.below B9
  have E79 := (hv9.belowW.block b7 (lt_of_block E7)).trans E7
  clear hv7 B8 B9 E14b oP7 oQ7 oR oT
  obtain ⟨x0, x1, x2, _⟩ := obj_cells E79
  obtain ⟨y0, y1, y2, _⟩ := obj_cells E17
  by_cases hf0 : f = 0
  · obtain rfl : f = 0 := hf0
    have hps : peekR v5 T a = some ⟨c, vs, bs⟩ := by rw [← hv5.out]; exact put_self hf.out
    rw [hps] at hv9 E17 E14c oP9 oQ9 oR9 oT9 E79 x0 x1 x2 y0 y1 y2 ⊢
    simp only [rm1, rm2, rm3, rm4] at hv9 E17 E14c oP9 oQ9 oR9 oT9 E79 x0 x1 x2 y0 y1 y2 ⊢
    replace hps : Hid _ := hps
    clear hf
    unfold objB at hv9 oP9 oQ9 oR9 oT9 E14c E79 E17 x0 x1 x2 y0 y1 y2
    go_wp2_with fail
    generalize w8.alloc (.cells #[.int .i64 c, .slice ra rn rc, .slice ta tn tc] 27) = w9 at *
    clear x0 x1 x2 y0 y1 y2 E17 E79
    refine (rsame_any ⟨hO1.cls, oR9.isV, oT9.isB⟩ (hO1.below hv9.belowW)).mono ?_
    rintro e w10 ⟨rfl, B10⟩
    rw [alike_yes']
    have hv10 := hv9.below B10
    have E14d : w10.heap[b14]? = some (objB (clsR (peekR v4 T b)) (.slice pa pn pc) (.slice qa qn qc)) := (B10.block b14 (lt_of_block E14c)).trans E14c
    have oP10 := oP9.below B10
    have oQ10 := oQ9.below B10
    clear hv9 E14c oP9 oQ9 oR9 oT9 B10
    go_wp2_with fail
    refine (hv_peek hv10 b).mono ?_
    rintro e w11 ⟨ga, gn, gc, da, dn, dc, rfl, oG, oD, B11⟩
    have B12 : Below w11.heap.size w11 (w11.alloc (objB (clsR (peekR v5 T b)) (.slice ga gn gc) (.slice da dn dc))) := box_below
    have E19 := new1 w11 (objB (clsR (peekR v5 T b)) (.slice ga gn gc) (.slice da dn dc))
    have hv12 := (hv10.below B11).below B12
    have E14e := (B12.block b14 (Nat.lt_of_lt_of_le (lt_of_block E14d) B11.size)).trans ((B11.block b14 (lt_of_block E14d)).trans E14d)
    have oP12 := (oP10.below B11).below B12
    have oQ12 := (oQ10.below B11).below B12
    have oG12 := oG.below B12
    have oD12 := oD.below B12
    clear hv10 B11 B12 E14d oP10 oQ10 oG oD
    unfold objB at hv12 oP12 oQ12 oG12 oD12 E14e E19
    go_wp2_with fail
    generalize w11.alloc (.cells #[.int .i64 (clsR (peekR v5 T b)), .slice ga gn gc, .slice da dn dc] 27) = w12 at *
    obtain ⟨b19, hb19⟩ : ∃ q, q = w11.heap.size := ⟨_, rfl⟩
    rw [← hb19] at E19 ⊢
    clear hb19
    replace E19 : w12.heap[b19]? = some (objB (clsR (peekR v5 T b)) (.slice ga gn gc) (.slice da dn dc)) := E19
    replace E14e : w12.heap[b14]? = some (objB (clsR (peekR v4 T b)) (.slice pa pn pc) (.slice qa qn qc)) := E14e
    refine (hv_peek hv12 4097).mono ?_
    rintro e w13 ⟨ha, hn, hc, ia, in_, ic, rfl, oH, oI, B13⟩
    have B14 : Below w13.heap.size w13 (w13.alloc (objB (clsR (peekR v5 T 4097)) (.slice ha hn hc) (.slice ia in_ ic))) := box_below
    have E21 := new1 w13 (objB (clsR (peekR v5 T 4097)) (.slice ha hn hc) (.slice ia in_ ic))
    have hv14 := (hv12.below B13).below B14
    have E14f := (B14.block b14 (Nat.lt_of_lt_of_le (lt_of_block E14e) B13.size)).trans ((B13.block b14 (lt_of_block E14e)).trans E14e)
    have E19f := (B14.block b19 (Nat.lt_of_lt_of_le (lt_of_block E19) B13.size)).trans ((B13.block b19 (lt_of_block E19)).trans E19)
    have oP14 := (oP12.below B13).below B14
    have oQ14 := (oQ12.below B13).below B14
    have oG14 := (oG12.below B13).below B14
    have oD14 := (oD12.below B13).below B14
    clear hv12 B13 B14 E14e E19 oP12 oQ12 oG12 oD12 oH oI
    obtain ⟨x0, x1, x2, _⟩ := obj_cells E14f
    obtain ⟨y0, y1, y2, _⟩ := obj_cells E19f
    obtain ⟨z0, z1, z2, _⟩ := obj_cells E21
    have fin := below_size B1 B1.size hv14.belowW
    by_cases hab : a = b
    · subst hab
      by_cases hak : a = 4097
      · subst hak
        unfold objB at x0 x1 x2 y0 y1 y2 z0 z1 z2 fin
        go_wp2_with fail
        refine (known_true _).mono ?_
        rintro e wk ⟨rfl, BK⟩
        have fin2 := below_size fin fin.size BK
        go_wp2
        go_ret
        exact ⟨rfl, fin2⟩
      · have hak1 : (a == 4097) = false := by simpa using hak
        have hp7 : peekR v5 T 4097 = some o7 := by rw [← hv5.out, put_other hak, hv4e.out]; exact peek7 _ _
        rw [hp7] at x0 x1 x2 y0 y1 y2 z0 z1 z2 fin oP14 oQ14 oG14 oD14 E14f E19f hv14 ⊢
        simp only [o7, rm1, rm4] at x0 x1 x2 y0 y1 y2 z0 z1 z2 fin oP14 oQ14 oG14 oD14 E14f E19f hv14 ⊢
        replace hp7 : Hid _ := hp7
        replace hak : Hid _ := hak
        unfold objB at x0 x1 x2 y0 y1 y2 z0 z1 z2 fin
        go_wp2_with fail
        refine (known_true _).mono ?_
        rintro e wk ⟨rfl, BK⟩
        have fin2 := below_size fin fin.size BK
        go_wp2
        go_ret
        exact ⟨rfl, fin2⟩
    · have hab1 : (a == b) = false := by simpa using hab
      have hpo : peekR v5 T b = peekR v4 T b := by rw [← hv5.out]; exact put_other hab
      rw [hpo] at y0 oG14 oD14 ⊢
      replace hpo : Hid _ := hpo
      replace hab : Hid _ := hab
      by_cases hak : a = 4097
      · subst hak
        unfold objB at x0 x1 x2 y0 y1 y2 z0 z1 z2 fin oP14 oQ14 oG14 oD14
        go_wp2_with fail
        refine (rsame_any ⟨kcl, oP14.isV, oQ14.isB⟩ ⟨kcl, oG14.isV, oD14.isB⟩).mono ?_
        rintro e ws ⟨rfl, BS⟩
        rw [alike_yes']
        have fin1 := below_size fin fin.size BS
        clear x0 x1 x2 y0 y1 y2 z0 z1 z2
        go_wp2_with fail
        refine (known_true _).mono ?_
        rintro e wk ⟨rfl, BK⟩
        have fin2 := below_size fin1 fin1.size BK
        go_wp2
        go_ret
        exact ⟨rfl, fin2⟩
      · have hak1 : (a == 4097) = false := by simpa using hak
        have hp7 : peekR v5 T 4097 = some o7 := by rw [← hv5.out, put_other hak, hv4e.out]; exact peek7 _ _
        rw [hp7] at x0 x1 x2 y0 y1 y2 z0 z1 z2 fin oP14 oQ14 oG14 oD14 E14f E19f hv14 ⊢
        simp only [o7, rm1, rm4] at x0 x1 x2 y0 y1 y2 z0 z1 z2 fin oP14 oQ14 oG14 oD14 E14f E19f hv14 ⊢
        replace hp7 : Hid _ := hp7
        replace hak : Hid _ := hak
        unfold objB at x0 x1 x2 y0 y1 y2 z0 z1 z2 fin oP14 oQ14 oG14 oD14
        go_wp2_with fail
        refine (rsame_any ⟨kcl, oP14.isV, oQ14.isB⟩ ⟨kcl, oG14.isV, oD14.isB⟩).mono ?_
        rintro e ws ⟨rfl, BS⟩
        rw [alike_yes']
        have fin1 := below_size fin fin.size BS
        have zs := (BS.cell (p := ⟨w13.heap.size, 0, none⟩) (lt_of_cell z0)).trans z0
        clear x0 x1 x2 y0 y1 y2 z0 z1 z2
        go_wp2_with fail
        refine (known_true _).mono ?_
        rintro e wk ⟨rfl, BK⟩
        have fin2 := below_size fin1 fin1.size BK
        go_wp2
        go_ret
        exact ⟨rfl, fin2⟩
  · have hf1 : (f == 0) = false := by simpa using hf0
    obtain ⟨cx, hcx⟩ : ∃ q, q = clsR (peekR v5 T a) := ⟨_, rfl⟩
    rw [← hcx] at hv9 E17 E14c oP9 oQ9 oR9 oT9 E79 x0 x1 x2 y0 y1 y2 ⊢
    obtain ⟨ex, hex⟩ : ∃ q, q = errR (peekR v5 T a) := ⟨_, rfl⟩
    rw [← hex]
    clear hcx hex hf x0 x1 x2 y0 y1 y2 E17 E79 oR9 oT9
    unfold objB at hv9 oP9 oQ9 E14c
    go_wp2_with fail
    generalize w8.alloc (.cells #[.int .i64 cx, .slice ra rn rc, .slice ta tn tc] 27) = w10 at *
    have hv10 := hv9
    have E14d : w10.heap[b14]? = some (objB (clsR (peekR v4 T b)) (.slice pa pn pc) (.slice qa qn qc)) := E14c
    have oP10 := oP9
    have oQ10 := oQ9
    clear hv9 E14c oP9 oQ9
    refine (hv_peek hv10 b).mono ?_
    rintro e w11 ⟨ga, gn, gc, da, dn, dc, rfl, oG, oD, B11⟩
    have B12 : Below w11.heap.size w11 (w11.alloc (objB (clsR (peekR v5 T b)) (.slice ga gn gc) (.slice da dn dc))) := box_below
    have E19 := new1 w11 (objB (clsR (peekR v5 T b)) (.slice ga gn gc) (.slice da dn dc))
    have hv12 := (hv10.below B11).below B12
    have E14e := (B12.block b14 (Nat.lt_of_lt_of_le (lt_of_block E14d) B11.size)).trans ((B11.block b14 (lt_of_block E14d)).trans E14d)
    have oP12 := (oP10.below B11).below B12
    have oQ12 := (oQ10.below B11).below B12
    have oG12 := oG.below B12
    have oD12 := oD.below B12
    clear hv10 B11 B12 E14d oP10 oQ10 oG oD
    unfold objB at hv12 oP12 oQ12 oG12 oD12 E14e E19
    go_wp2_with fail
    generalize w11.alloc (.cells #[.int .i64 (clsR (peekR v5 T b)), .slice ga gn gc, .slice da dn dc] 27) = w12 at *
    obtain ⟨b19, hb19⟩ : ∃ q, q = w11.heap.size := ⟨_, rfl⟩
    rw [← hb19] at E19 ⊢
    clear hb19
    replace E19 : w12.heap[b19]? = some (objB (clsR (peekR v5 T b)) (.slice ga gn gc) (.slice da dn dc)) := E19
    replace E14e : w12.heap[b14]? = some (objB (clsR (peekR v4 T b)) (.slice pa pn pc) (.slice qa qn qc)) := E14e
    refine (hv_peek hv12 4097).mono ?_
    rintro e w13 ⟨ha, hn, hc, ia, in_, ic, rfl, oH, oI, B13⟩
    have B14 : Below w13.heap.size w13 (w13.alloc (objB (clsR (peekR v5 T 4097)) (.slice ha hn hc) (.slice ia in_ ic))) := box_below
    have E21 := new1 w13 (objB (clsR (peekR v5 T 4097)) (.slice ha hn hc) (.slice ia in_ ic))
    have hv14 := (hv12.below B13).below B14
    have E14f := (B14.block b14 (Nat.lt_of_lt_of_le (lt_of_block E14e) B13.size)).trans ((B13.block b14 (lt_of_block E14e)).trans E14e)
    have E19f := (B14.block b19 (Nat.lt_of_lt_of_le (lt_of_block E19) B13.size)).trans ((B13.block b19 (lt_of_block E19)).trans E19)
    have oP14 := (oP12.below B13).below B14
    have oQ14 := (oQ12.below B13).below B14
    have oG14 := (oG12.below B13).below B14
    have oD14 := (oD12.below B13).below B14
    clear hv12 B13 B14 E14e E19 oP12 oQ12 oG12 oD12 oH oI
    obtain ⟨x0, x1, x2, _⟩ := obj_cells E14f
    obtain ⟨y0, y1, y2, _⟩ := obj_cells E19f
    obtain ⟨z0, z1, z2, _⟩ := obj_cells E21
    have fin := below_size B1 B1.size hv14.belowW
    by_cases hab : a = b
    · subst hab
      by_cases hak : a = 4097
      · subst hak
        unfold objB at x0 x1 x2 y0 y1 y2 z0 z1 z2 fin
        go_wp2_with fail
        refine (known_true _).mono ?_
        rintro e wk ⟨rfl, BK⟩
        have fin2 := below_size fin fin.size BK
        go_wp2
        go_ret
        exact ⟨rfl, fin2⟩
      · have hak1 : (a == 4097) = false := by simpa using hak
        have hp7 : peekR v5 T 4097 = some o7 := by rw [← hv5.out, put_other hak, hv4e.out]; exact peek7 _ _
        rw [hp7] at x0 x1 x2 y0 y1 y2 z0 z1 z2 fin oP14 oQ14 oG14 oD14 E14f E19f hv14 ⊢
        simp only [o7, rm1, rm4] at x0 x1 x2 y0 y1 y2 z0 z1 z2 fin oP14 oQ14 oG14 oD14 E14f E19f hv14 ⊢
        replace hp7 : Hid _ := hp7
        replace hak : Hid _ := hak
        unfold objB at x0 x1 x2 y0 y1 y2 z0 z1 z2 fin
        go_wp2_with fail
        refine (known_true _).mono ?_
        rintro e wk ⟨rfl, BK⟩
        have fin2 := below_size fin fin.size BK
        go_wp2
        go_ret
        exact ⟨rfl, fin2⟩
    · have hab1 : (a == b) = false := by simpa using hab
      have hpo : peekR v5 T b = peekR v4 T b := by rw [← hv5.out]; exact put_other hab
      rw [hpo] at y0 oG14 oD14 ⊢
      replace hpo : Hid _ := hpo
      replace hab : Hid _ := hab
      by_cases hak : a = 4097
      · subst hak
        unfold objB at x0 x1 x2 y0 y1 y2 z0 z1 z2 fin oP14 oQ14 oG14 oD14
        go_wp2_with fail
        refine (rsame_any ⟨kcl, oP14.isV, oQ14.isB⟩ ⟨kcl, oG14.isV, oD14.isB⟩).mono ?_
        rintro e ws ⟨rfl, BS⟩
        rw [alike_yes']
        have fin1 := below_size fin fin.size BS
        clear x0 x1 x2 y0 y1 y2 z0 z1 z2
        go_wp2_with fail
        refine (known_true _).mono ?_
        rintro e wk ⟨rfl, BK⟩
        have fin2 := below_size fin1 fin1.size BK
        go_wp2
        go_ret
        exact ⟨rfl, fin2⟩
      · have hak1 : (a == 4097) = false := by simpa using hak
        have hp7 : peekR v5 T 4097 = some o7 := by rw [← hv5.out, put_other hak, hv4e.out]; exact peek7 _ _
        rw [hp7] at x0 x1 x2 y0 y1 y2 z0 z1 z2 fin oP14 oQ14 oG14 oD14 E14f E19f hv14 ⊢
        simp only [o7, rm1, rm4] at x0 x1 x2 y0 y1 y2 z0 z1 z2 fin oP14 oQ14 oG14 oD14 E14f E19f hv14 ⊢
        replace hp7 : Hid _ := hp7
        replace hak : Hid _ := hak
        unfold objB at x0 x1 x2 y0 y1 y2 z0 z1 z2 fin oP14 oQ14 oG14 oD14
        go_wp2_with fail
        refine (rsame_any ⟨kcl, oP14.isV, oQ14.isB⟩ ⟨kcl, oG14.isV, oD14.isB⟩).mono ?_
        rintro e ws ⟨rfl, BS⟩
        rw [alike_yes']
        have fin1 := below_size fin fin.size BS
        have zs := (BS.cell (p := ⟨w13.heap.size, 0, none⟩) (lt_of_cell z0)).trans z0
        clear x0 x1 x2 y0 y1 y2 z0 z1 z2
        go_wp2_with fail
        refine (known_true _).mono ?_
        rintro e wk ⟨rfl, BK⟩
        have fin2 := below_size fin1 fin1.size BK
        go_wp2
        go_ret
        exact ⟨rfl, fin2⟩
end Go.Proofs.Yteomolihandfnaa
