/- The document's view: Put, Make. -/
import Derived.Test.YteomolihandfnaaGreatDst
namespace Go.Proofs.YteomolihandfnaaGreat
open Go.RowKit
set_option maxRecDepth 100000
def DvP (w : World) (X : Nat → Prop) (b ub : Nat) (v : Dv) (w' : World) : Prop := ∃ X', Db w' X' b ub v ∧ Grow X X' w w' ∧ Fr X w w'
theorem DvP.below {w w1 w' : World} {X : Nat → Prop} {b ub : Nat} {v : Dv} (hb : Below w.heap.size w w1) (h : DvP w1 X b ub v w') : DvP w X b ub v w' := by
  obtain ⟨X', h1, h2, h3⟩ := h
  refine ⟨X', h1, ⟨h2.old, fun g hg => ?_⟩, (Fr.of_below hb).trans h3 (fun _ _ h => h)⟩
  rcases h2.new g hg with q | ⟨q, q'⟩
  · exact .inl q
  · exact .inr ⟨Nat.le_trans hb.size q, q'⟩
theorem DvP.refl {w : World} {X : Nat → Prop} {b ub : Nat} {v : Dv} (h : Db w X b ub v) : DvP w X b ub v w := ⟨X, h, Grow.refl _ _, Fr.refl _ _⟩
theorem DvP.of_below {w w' : World} {X : Nat → Prop} {b ub : Nat} {v : Dv} (h : Db w X b ub v) (hb : Below w.heap.size w w') : DvP w X b ub v w' := (DvP.refl (h.below hb)).below hb
def dputE (v : Dv) (u : RTab) (k : Int) (o : Ob) : Int := match dpk v u k with
  | none => 25
  | some _ => fitsE o.cls o.vs o.bs.length
def dmakeN (v : Dv) (o : Ob) : Int := if fitsE o.cls o.vs o.bs.length = 0 ∧ v.n < 4096 then 4096 + (v.n + 1) else 0
def dmakeE (v : Dv) (o : Ob) : Int := if fitsE o.cls o.vs o.bs.length = 0 then (if v.n < 4096 then 0 else 4) else fitsE o.cls o.vs o.bs.length
theorem box_obj {w : World} {c : Int} {s b : Value} : Below w.heap.size w (w.alloc (objB c s b)) := box_below
set_option maxHeartbeats 8000000 in
theorem dput_any {w : World} {U X : Nat → Prop} {b ub : Nat} {v : Dv} {u : RTab} (h : Db w X b ub v) (hu : RTb w U ub u) (hf : u.from_ ≤ v.c) (hf2 : v.c ≤ u.end_) (hok0 : ∀ r ∈ u.recs, okR r.1 r.2 = true) (hk0 : u.k ≤ 1000) (hg0 : ∀ x ∈ v.l, ObG (obC x)) (hfew : v.l.length ≤ 8000) (k : Int) (hkb : -9223372036854775808 ≤ k ∧ k ≤ 9223372036854775807) {c : Int} {sa ba : Option Addr} {sn sc bn bc : Nat} {vs : List (Int × Int)} {bs : List Int} (hO : IsO w c sa sn sc ba bn bc vs bs) (hs : sn ≤ 8796093022208) (hb : bn ≤ 140737488355328) :
    Calls Tryz.prog 17 #[.pointer (some ⟨b, 0, none⟩), .int .i64 k, .agg #[.int .i64 c, .slice sa sn sc, .slice ba bn bc]] w fun e w' => e = .returned (.int .i64 (dputE v u k ⟨c, vs, bs⟩)) ∧ DvP w X b ub (dputV v u k ⟨c, vs, bs⟩) w' := by
  have E5 := new1 w (objB c (.slice sa sn sc) (.slice ba bn bc))
  have B5 : Below w.heap.size w (w.alloc (objB c (.slice sa sn sc) (.slice ba bn bc))) := box_below
  have h1 := h.below B5
  have hu1 := hu.below B5
  have io := hO.below B5
  have hok : Hid (∀ r ∈ u.recs, okR r.1 r.2 = true) := hok0
  have hg : Hid (∀ x ∈ v.l, ObG (obC x)) := hg0
  have hbl : Hid (bs.length = bn) := hO.b.size
  clear h hu hO hok0 hg0
  unfold objB at E5 B5 h1 hu1 io
  go_enter Tryz.func17, Tryz.ntmps17
  go_wp2_with fail
  generalize w.alloc (.cells #[.int .i64 c, .slice sa sn sc, .slice ba bn bc] 35) = w1 at *
  obtain ⟨b5, hb5⟩ : ∃ q, Hid (q = w.heap.size) := ⟨_, rfl⟩
  rw [← hb5.out] at E5 ⊢
  clear hb5
  replace E5 : w1.heap[b5]? = some (objB c (.slice sa sn sc) (.slice ba bn bc)) := E5
  refine (dpeek_any h1 hu1 hf hf2 hok.out hk0 hg.out k).mono ?_
  rintro e w2 ⟨pa, pn, pc, qa, qn, qc, rfl, oV, oB, B2⟩
  have B7 : Below w2.heap.size w2 (w2.alloc (objB (clsR (dpk v u k)) (.slice pa pn pc) (.slice qa qn qc))) := box_below
  have B27 := below_size B2 B2.size B7
  have h2 := h1.below B27
  have io2 := io.below B27
  have E5' := (B27.block b5 (lt_of_block E5)).trans E5
  have BB := below_size B5 B5.size B27
  clear oV oB B2 B7 h1 hu1 io E5
  obtain ⟨D, hD⟩ : ∃ q, Hid (dpk v u k = q) := ⟨_, rfl⟩
  rw [hD.out] at B27 h2 io2 BB E5' ⊢
  unfold objB at B27 h2 io2 BB E5'
  cases D with
  | none =>
    have hE : Hid (dputE v u k ⟨c, vs, bs⟩ = 25) := by show _ = _; unfold dputE; rw [hD.out]
    have hV : Hid (dputV v u k ⟨c, vs, bs⟩ = v) := by show _ = _; unfold dputV; rw [hD.out]; rfl
    have e25 : errR none = 25 := rfl
    rw [e25]
    have fin : Hid _ := DvP.below BB (DvP.refl h2)
    go_wp2
    go_ret
    exact ⟨by rw [hE.out]; rfl, by rw [hV.out]; exact fin.out⟩
  | some D =>
    have e0 : errR (some D) = 0 := rfl
    rw [e0]
    have fv : Hid (dputE v u k ⟨c, vs, bs⟩ = fitsE c vs bn) := by show _ = _; unfold dputE; rw [hD.out]; show fitsE c vs bs.length = _; rw [hbl.out]
    have vv : Hid (dputV v u k ⟨c, vs, bs⟩ = if fitsE c vs bn = 0 then dkeep v k ⟨c, vs, bs⟩ else v) := by
      show _ = _
      unfold dputV
      rw [hD.out]
      show (if true = true ∧ fitsE c vs bs.length = 0 then _ else _) = _
      rw [hbl.out]
      simp
    obtain ⟨z0, z1, z2, zf⟩ := obj_cells E5'
    have hbm : bn ≤ maxLen := Nat.le_trans io2.b.room io2.b.most
    go_wp2_with fail
    generalize w2.alloc (.cells #[.int .i64 (clsR (some D)), .slice pa pn pc, .slice qa qn qc] 35) = w3 at *
    refine (wrong_any c (ba := ba) (bc := bc) io2.v hbm).mono ?_
    rintro e w4 ⟨rfl, B4⟩
    have BB4 := below_size BB BB.size B4
    have h4 := h2.below B4
    have io4 := io2.below B4
    obtain ⟨y0, y1, y2, yf⟩ := obj_cells ((B4.block b5 (lt_of_block E5')).trans E5')
    obtain ⟨F, hF⟩ : ∃ q, Hid (fitsE c vs bn = q) := ⟨_, rfl⟩
    rw [hF.out] at fv vv ⊢
    clear z0 z1 z2 zf h2 io2 E5'
    by_cases hF0 : F = 0
    · subst hF0
      rw [if_pos rfl] at vv
      go_wp2_with fail
      refine (dset_any h4 hfew k hkb io4 hs hb).mono ?_
      rintro e w5 ⟨rfl, hP⟩
      have fin : Hid (DvP w X b ub (dkeep v k ⟨c, vs, bs⟩) w5) := DvP.below BB4 hP
      clear hP y0 y1 y2 yf
      go_wp2
      go_ret
      exact ⟨by rw [fv.out]; rfl, by rw [vv.out]; exact fin.out⟩
    · have hF1 : (F == 0) = false := by simpa using hF0
      rw [if_neg hF0] at vv
      have fin : Hid (DvP w X b ub v w4) := (DvP.refl h4).below BB4
      go_wp2
      go_ret
      exact ⟨by rw [fv.out]; rfl, by rw [vv.out]; exact fin.out⟩
theorem dv_set4 {w : World} {b ub : Nat} {c n : Int} {l r : Value} (h : w.heap[b]? = some (dvB ub c l r n)) (n' : Int) : (w.setCell ⟨b, 4, none⟩ (.int .i64 n')).heap[b]? = some (dvB ub c l r n') := by
  unfold dvB at h ⊢
  rw [heap_setCell_same w _ 4 _ _ _ h]
  simp
theorem Db.setN {w : World} {X : Nat → Prop} {b ub : Nat} {v : Dv} (h : Db w X b ub v) (m : Int) : Db (w.setCell ⟨b, 4, none⟩ (.int .i64 m)) X b ub ⟨v.c, v.l, v.rd, m⟩ ∧ Fr X w (w.setCell ⟨b, 4, none⟩ (.int .i64 m)) := by
  have C0 : Below 0 w (w.setCell ⟨b, 4, none⟩ (.int .i64 m)) := (Below.refl 0 w).setCell (p := ⟨b, 4, none⟩) (Nat.zero_le _) _
  have oth : ∀ q, q ≠ b → (w.setCell ⟨b, 4, none⟩ (.int .i64 m)).heap[q]? = w.heap[q]? := fun q hq => heap_setCell_other w ⟨b, 4, none⟩ q _ hq
  obtain ⟨lv, rb, h1, h2, ⟨cur, h3, h4⟩, h5, h6⟩ := h.blk
  exact ⟨⟨⟨lv, rb, dv_set4 h1 m, h2.same (fun _ h => h) (fun g _ hg => oth g hg.2.2), ⟨cur, (oth rb h6).trans h3, h4⟩, h5, h6⟩, h.own, fun g hg => Nat.lt_of_lt_of_le (h.lt g hg) C0.size, h.few⟩, ⟨C0.os, C0.tape, C0.output, C0.size, fun g _ hn => oth g (fun e => hn (e ▸ h.own))⟩⟩
set_option maxHeartbeats 8000000 in
theorem dmake_any {W0 w : World} {X : Nat → Prop} {b ub : Nat} {v : Dv} (h : Db w X b ub v) (hn0 : 0 ≤ v.n ∧ v.n ≤ 4096) (hfew : v.l.length ≤ 8000) {c : Int} {sa ba : Option Addr} {sn sc bn bc : Nat} {vs : List (Int × Int)} {bs : List Int} (hO : IsO W0 c sa sn sc ba bn bc vs bs) (hW0 : Below W0.heap.size W0 w) (hV0 : W0.heap.size ≤ b) (hs : sn ≤ 8796093022208) (hb' : bn ≤ 140737488355328) :
    Calls Tryz.prog 19 #[.pointer (some ⟨b, 0, none⟩), .agg #[.int .i64 c, .slice sa sn sc, .slice ba bn bc]] w fun e w' => e = .returned (.tuple #[.int .i64 (dmakeN v ⟨c, vs, bs⟩), .int .i64 (dmakeE v ⟨c, vs, bs⟩)]) ∧ DvP w X b ub (dmakeV v ⟨c, vs, bs⟩) w' := by
  have E5 := new1 w (objB c (.slice sa sn sc) (.slice ba bn bc))
  have B5 : Below w.heap.size w (w.alloc (objB c (.slice sa sn sc) (.slice ba bn bc))) := box_below
  have h1 := h.below B5
  have io := (hO.below hW0).below B5
  have hbl : Hid (bs.length = bn) := hO.b.size
  have lX : Hid (∀ g, X g → g < w.heap.size) := h.lt
  have hbm : bn ≤ maxLen := Nat.le_trans hO.b.room hO.b.most
  have W05 := below_size hW0 hW0.size B5
  clear h
  unfold objB at E5 B5 h1 io W05
  go_enter Tryz.func19, Tryz.ntmps19
  go_wp2_with fail
  generalize w.alloc (.cells #[.int .i64 c, .slice sa sn sc, .slice ba bn bc] 35) = w1 at *
  obtain ⟨b5, hb5⟩ : ∃ q, q = w.heap.size := ⟨_, rfl⟩
  rw [← hb5] at E5 ⊢
  have nX : ∀ g, X g → g ≠ b5 := fun g hg e => by have := lX.out g hg; omega
  replace nX : Hid _ := nX
  clear hb5
  replace E5 : w1.heap[b5]? = some (objB c (.slice sa sn sc) (.slice ba bn bc)) := E5
  refine (wrong_any c (ba := ba) (bc := bc) io.v hbm).mono ?_
  rintro e w2 ⟨rfl, B2⟩
  have h2 := h1.below B2
  have io2 := io.below B2
  have BB := below_size B5 B5.size B2
  have W06 : Hid (Below W0.heap.size W0 w2) := below_size W05 W05.size B2
  have E6 := (B2.block b5 (lt_of_block E5)).trans E5
  obtain ⟨lv, rb, hblk, _, _, _, _⟩ := h2.blk
  obtain ⟨x0, x1, x2, x3, x4⟩ := dv_cells hblk
  have fz := dv_frozen hblk 4
  obtain ⟨z0, z1, z2, zf⟩ := obj_cells E6
  have vE : Hid (dmakeE v ⟨c, vs, bs⟩ = if fitsE c vs bn = 0 then (if v.n < 4096 then 0 else 4) else fitsE c vs bn) := by show dmakeE v ⟨c, vs, bs⟩ = _; unfold dmakeE; show (if fitsE c vs bs.length = 0 then _ else fitsE c vs bs.length) = _; rw [hbl.out]
  have vN : Hid (dmakeN v ⟨c, vs, bs⟩ = if fitsE c vs bn = 0 ∧ v.n < 4096 then 4096 + (v.n + 1) else 0) := by show dmakeN v ⟨c, vs, bs⟩ = _; unfold dmakeN; show (if fitsE c vs bs.length = 0 ∧ v.n < 4096 then _ else _) = _; rw [hbl.out]
  have vV : Hid (dmakeV v ⟨c, vs, bs⟩ = if fitsE c vs bn = 0 ∧ v.n < 4096 then dkeep ⟨v.c, v.l, v.rd, v.n + 1⟩ (4096 + (v.n + 1)) ⟨c, vs, bs⟩ else v) := by show dmakeV v ⟨c, vs, bs⟩ = _; unfold dmakeV; show (if fitsE c vs bs.length = 0 ∧ v.n < 4096 then _ else _) = _; rw [hbl.out]
  obtain ⟨F, hF⟩ : ∃ q, Hid (fitsE c vs bn = q) := ⟨_, rfl⟩
  rw [hF.out] at vE vN vV ⊢
  clear h1 io E5 B2 lX
  by_cases hF0 : F = 0
  · subst hF0
    rw [if_pos rfl] at vE
    by_cases hm : v.n < 4096
    · rw [if_pos hm] at vE
      rw [if_pos ⟨rfl, hm⟩] at vN vV
      have hm' : ¬ (4096 : Int) ≤ v.n := by omega
      obtain ⟨nn, hnn⟩ : ∃ q, q = v.n := ⟨_, rfl⟩
      obtain ⟨hs2, fs2⟩ := h2.setN (v.n + 1)
      have wr1 : IntKind.i64.wrap (v.n + 1) = v.n + 1 := wrap64 (by omega) (by omega)
      have wr2 : IntKind.i64.wrap (4096 + (v.n + 1)) = 4096 + (v.n + 1) := wrap64 (by omega) (by omega)
      have hkb : -9223372036854775808 ≤ 4096 + (v.n + 1) ∧ 4096 + (v.n + 1) ≤ 9223372036854775807 := by omega
      have io3 : IsO (w2.setCell ⟨b, 4, none⟩ (.int .i64 (v.n + 1))) c sa sn sc ba bn bc vs bs := hO.below (W06.out.setCell (p := ⟨b, 4, none⟩) hV0 _)
      have E7 := (fs2.block b5 (lt_of_block E6) (fun q => nX.out b5 q rfl)).trans E6
      have FW : Hid (Fr X w (w2.setCell ⟨b, 4, none⟩ (.int .i64 (v.n + 1)))) := (Fr.of_below BB).trans fs2 (fun _ _ h => h)
      clear hnn nn
      go_upto_region 7 with fail
      generalize w2.setCell ⟨b, 4, none⟩ (.int .i64 (v.n + 1)) = wq at *
      clear x0 x1 x2 x3 x4 fz z0 z1 z2 zf hblk h2 E6 io2 fs2
      obtain ⟨lv, rb, hblk, _, _, _, _⟩ := hs2.blk
      obtain ⟨x0, x1, x2, x3, x4⟩ := dv_cells hblk
      obtain ⟨z0, z1, z2, zf⟩ := obj_cells E7
      refine wp_region_inv' (fun A D a w' => ∃ v24 v25 v26 v27 v28 v29 v30 v31, a = ((((((((A.put (some 24) v24).put (some 25) v25).put (some 26) v26).put (some 27) v27).put (some 28) v28).put (some 29) v29).put (some 30) v30).put (some 31) v31) ∧ (D 7 ∨ Below wq.heap.size wq w') ∧ (D 0 → v24 = .pointer (some ⟨b, 0, none⟩)) ∧ (D 1 → v25 = .pointer (some ⟨b, 0, none⟩)) ∧ (D 2 → v26 = .pointer (some ⟨b, 0, none⟩)) ∧ (D 3 → v27 = .pointer (some ⟨b, 4, none⟩)) ∧ (D 4 → v28 = .int .i64 (v.n + 1)) ∧ (D 5 → v29 = .int .i64 (4096 + (v.n + 1))) ∧ (D 6 → v30 = .agg #[.int .i64 c, .slice sa sn sc, .slice ba bn bc]) ∧ (D 7 → v31 = .tuple #[]) ∧ (D 7 → DvP wq X b ub (dkeep ⟨v.c, v.l, v.rd, v.n + 1⟩ (4096 + (v.n + 1)) ⟨c, vs, bs⟩) w')) (by kernel_rfl) (by kernel_rfl) ?mono ?start ?step ?done
      case mono =>
        rintro D D' a w' hD ⟨v24, v25, v26, v27, v28, v29, v30, v31, ha, hB, e0, e1, e2, e3, e4, e5, e6, e7, hQ⟩
        exact ⟨v24, v25, v26, v27, v28, v29, v30, v31, ha, hB.imp_left (hD 7).1, fun h => e0 ((hD 0).2 h), fun h => e1 ((hD 1).2 h), fun h => e2 ((hD 2).2 h), fun h => e3 ((hD 3).2 h), fun h => e4 ((hD 4).2 h), fun h => e5 ((hD 5).2 h), fun h => e6 ((hD 6).2 h), fun h => e7 ((hD 7).2 h), fun h => hQ ((hD 7).2 h)⟩
      case start => exact ⟨undef, undef, undef, undef, undef, undef, undef, undef, by kernel_rfl, .inr ((Below.refl _ _).drew), fun h => h.elim, fun h => h.elim, fun h => h.elim, fun h => h.elim, fun h => h.elim, fun h => h.elim, fun h => h.elim, fun h => h.elim, fun h => h.elim⟩
      case step =>
        intro i o ho D a w' hI hn hcl hd
        obtain ⟨v24, v25, v26, v27, v28, v29, v30, v31, ha, hB, e0, e1, e2, e3, e4, e5, e6, e7, hQ⟩ := hI
        match i, ho with
        | 0, ho =>
          cases Option.some.inj ho
          have ev : a.tmps[0]?.getD undef = .pointer (some ⟨b, 0, none⟩) := by rw [ha]; kernel_rfl
          refine wp_value (w' := w') (v := .pointer (some ⟨b, 0, none⟩)) (by simp [execOp, ev, go_sem]) ?_
          exact ⟨(.pointer (some ⟨b, 0, none⟩)), v25, v26, v27, v28, v29, v30, v31, by rw [ha]; kernel_rfl, hB.imp_left .inr, fun _ => rfl, fun h => e1 (h.resolve_left (by decide)), fun h => e2 (h.resolve_left (by decide)), fun h => e3 (h.resolve_left (by decide)), fun h => e4 (h.resolve_left (by decide)), fun h => e5 (h.resolve_left (by decide)), fun h => e6 (h.resolve_left (by decide)), fun h => e7 (h.resolve_left (by decide)), fun h => hQ (h.resolve_left (by decide))⟩
        | 1, ho =>
          cases Option.some.inj ho
          have ev : a.tmps[0]?.getD undef = .pointer (some ⟨b, 0, none⟩) := by rw [ha]; kernel_rfl
          refine wp_value (w' := w') (v := .pointer (some ⟨b, 0, none⟩)) (by simp [execOp, ev, go_sem]) ?_
          exact ⟨v24, (.pointer (some ⟨b, 0, none⟩)), v26, v27, v28, v29, v30, v31, by rw [ha]; kernel_rfl, hB.imp_left .inr, fun h => e0 (h.resolve_left (by decide)), fun _ => rfl, fun h => e2 (h.resolve_left (by decide)), fun h => e3 (h.resolve_left (by decide)), fun h => e4 (h.resolve_left (by decide)), fun h => e5 (h.resolve_left (by decide)), fun h => e6 (h.resolve_left (by decide)), fun h => e7 (h.resolve_left (by decide)), fun h => hQ (h.resolve_left (by decide))⟩
        | 2, ho =>
          cases Option.some.inj ho
          have ev : a.tmps[25]?.getD undef = .pointer (some ⟨b, 0, none⟩) := by rw [ha, e1 (hd ⟨1, .data⟩ (by simp) rfl)]; kernel_rfl
          refine wp_value (w' := w') (v := .pointer (some ⟨b, 0, none⟩)) (by simp [execOp, ev, go_sem]) ?_
          exact ⟨v24, v25, (.pointer (some ⟨b, 0, none⟩)), v27, v28, v29, v30, v31, by rw [ha]; kernel_rfl, hB.imp_left .inr, fun h => e0 (h.resolve_left (by decide)), fun h => e1 (h.resolve_left (by decide)), fun _ => rfl, fun h => e3 (h.resolve_left (by decide)), fun h => e4 (h.resolve_left (by decide)), fun h => e5 (h.resolve_left (by decide)), fun h => e6 (h.resolve_left (by decide)), fun h => e7 (h.resolve_left (by decide)), fun h => hQ (h.resolve_left (by decide))⟩
        | 3, ho =>
          cases Option.some.inj ho
          have ev : a.tmps[26]?.getD undef = .pointer (some ⟨b, 0, none⟩) := by rw [ha, e2 (hd ⟨2, .data⟩ (by simp) rfl)]; kernel_rfl
          refine wp_value (w' := w') (v := .pointer (some ⟨b, 4, none⟩)) (by simp [execOp, ev, go_sem]) ?_
          exact ⟨v24, v25, v26, (.pointer (some ⟨b, 4, none⟩)), v28, v29, v30, v31, by rw [ha]; kernel_rfl, hB.imp_left .inr, fun h => e0 (h.resolve_left (by decide)), fun h => e1 (h.resolve_left (by decide)), fun h => e2 (h.resolve_left (by decide)), fun _ => rfl, fun h => e4 (h.resolve_left (by decide)), fun h => e5 (h.resolve_left (by decide)), fun h => e6 (h.resolve_left (by decide)), fun h => e7 (h.resolve_left (by decide)), fun h => hQ (h.resolve_left (by decide))⟩
        | 4, ho =>
          cases Option.some.inj ho
          have ev : a.tmps[27]?.getD undef = .pointer (some ⟨b, 4, none⟩) := by rw [ha, e3 (hd ⟨3, .data⟩ (by simp) rfl)]; kernel_rfl
          have hb := hB.resolve_left (fun h => (fun h => hn (hcl 5 _ rfl h ⟨4, .data⟩ (by simp) rfl)) (hcl 7 _ rfl h ⟨5, .data⟩ (by simp) rfl))
          have q4 := (hb.cell (p := ⟨b, 4, none⟩) (lt_of_cell x4)).trans x4
          refine wp_value (w' := w') (v := .int .i64 (v.n + 1)) (by simp [execOp, ev, go_sem, q4]) ?_
          exact ⟨v24, v25, v26, v27, (.int .i64 (v.n + 1)), v29, v30, v31, by rw [ha]; kernel_rfl, hB.imp_left .inr, fun h => e0 (h.resolve_left (by decide)), fun h => e1 (h.resolve_left (by decide)), fun h => e2 (h.resolve_left (by decide)), fun h => e3 (h.resolve_left (by decide)), fun _ => rfl, fun h => e5 (h.resolve_left (by decide)), fun h => e6 (h.resolve_left (by decide)), fun h => e7 (h.resolve_left (by decide)), fun h => hQ (h.resolve_left (by decide))⟩
        | 5, ho =>
          cases Option.some.inj ho
          have ev : a.tmps[28]?.getD undef = .int .i64 (v.n + 1) := by rw [ha, e4 (hd ⟨4, .data⟩ (by simp) rfl)]; kernel_rfl
          refine wp_value (w' := w') (v := .int .i64 (4096 + (v.n + 1))) (by simp [execOp, ev, go_sem, wr2]) ?_
          exact ⟨v24, v25, v26, v27, v28, (.int .i64 (4096 + (v.n + 1))), v30, v31, by rw [ha]; kernel_rfl, hB.imp_left .inr, fun h => e0 (h.resolve_left (by decide)), fun h => e1 (h.resolve_left (by decide)), fun h => e2 (h.resolve_left (by decide)), fun h => e3 (h.resolve_left (by decide)), fun h => e4 (h.resolve_left (by decide)), fun _ => rfl, fun h => e6 (h.resolve_left (by decide)), fun h => e7 (h.resolve_left (by decide)), fun h => hQ (h.resolve_left (by decide))⟩
        | 6, ho =>
          cases Option.some.inj ho
          have ev : a.tmps[3]?.getD undef = .pointer (some ⟨b5, 0, none⟩) := by rw [ha]; kernel_rfl
          have hb := hB.resolve_left (fun h => hn (hcl 7 _ rfl h ⟨6, .data⟩ (by simp) rfl))
          have q0 := (hb.cell (p := ⟨b5, 0, none⟩) (lt_of_cell z0)).trans z0
          have q1 := (hb.cell (p := ⟨b5, 1, none⟩) (lt_of_cell z1)).trans z1
          have q2 := (hb.cell (p := ⟨b5, 2, none⟩) (lt_of_cell z2)).trans z2
          refine wp_value (w' := w') (v := .agg #[.int .i64 c, .slice sa sn sc, .slice ba bn bc]) (by simp [execOp, ev, go_sem, q0, q1, q2]) ?_
          exact ⟨v24, v25, v26, v27, v28, v29, (.agg #[.int .i64 c, .slice sa sn sc, .slice ba bn bc]), v31, by rw [ha]; kernel_rfl, hB.imp_left .inr, fun h => e0 (h.resolve_left (by decide)), fun h => e1 (h.resolve_left (by decide)), fun h => e2 (h.resolve_left (by decide)), fun h => e3 (h.resolve_left (by decide)), fun h => e4 (h.resolve_left (by decide)), fun h => e5 (h.resolve_left (by decide)), fun _ => rfl, fun h => e7 (h.resolve_left (by decide)), fun h => hQ (h.resolve_left (by decide))⟩
        | 7, ho =>
          cases Option.some.inj ho
          have ev : a.tmps[24]?.getD undef = .pointer (some ⟨b, 0, none⟩) := by rw [ha, e0 (hd ⟨0, .data⟩ (by simp) rfl)]; kernel_rfl
          have ev' : a.tmps[29]?.getD undef = .int .i64 (4096 + (v.n + 1)) := by rw [ha, e5 (hd ⟨5, .data⟩ (by simp) rfl)]; kernel_rfl
          have ev'' : a.tmps[30]?.getD undef = .agg #[.int .i64 c, .slice sa sn sc, .slice ba bn bc] := by rw [ha, e6 (hd ⟨6, .data⟩ (by simp) rfl)]; kernel_rfl
          have hb := hB.resolve_left hn
          refine wp_enter (f := 47) (args := #[.pointer (some ⟨b, 0, none⟩), .int .i64 (4096 + (v.n + 1)), .agg #[.int .i64 c, .slice sa sn sc, .slice ba bn bc]]) (by simp [execOp, ev, ev', ev'', go_sem]) ?_
          refine (dset_any (hs2.below hb) hfew (4096 + (v.n + 1)) hkb (io3.below hb) hs hb').mono ?_
          rintro e w6 ⟨rfl, hP⟩
          refine ⟨_, rfl, ?_⟩
          exact ⟨v24, v25, v26, v27, v28, v29, v30, (.tuple #[]), by rw [ha]; kernel_rfl, .inl (.inl rfl), fun h => e0 (h.resolve_left (by decide)), fun h => e1 (h.resolve_left (by decide)), fun h => e2 (h.resolve_left (by decide)), fun h => e3 (h.resolve_left (by decide)), fun h => e4 (h.resolve_left (by decide)), fun h => e5 (h.resolve_left (by decide)), fun h => e6 (h.resolve_left (by decide)), fun _ => rfl, fun _ => DvP.below hb hP⟩
        | i + 8, ho => simp at ho
      case done =>
        rintro D a w' ⟨v24, v25, v26, v27, v28, v29, v30, v31, ha, hB, e0, e1, e2, e3, e4, e5, e6, e7, hQ⟩ hall
        obtain rfl := e0 (hall 0 (by decide))
        obtain rfl := e1 (hall 1 (by decide))
        obtain rfl := e2 (hall 2 (by decide))
        obtain rfl := e3 (hall 3 (by decide))
        obtain rfl := e4 (hall 4 (by decide))
        obtain rfl := e5 (hall 5 (by decide))
        obtain rfl := e6 (hall 6 (by decide))
        obtain rfl := e7 (hall 7 (by decide))
        have hQ1 := hQ (hall 7 (by decide))
        clear hQ hB hall e0 e1 e2 e3 e4 e5 e6 e7
        rw [ha]
        clear ha
        simp only [Act.put, List.setIfInBounds_toArray, List.set_cons_zero, List.set_cons_succ]
        have fin : Hid (DvP w X b ub (dkeep ⟨v.c, v.l, v.rd, v.n + 1⟩ (4096 + (v.n + 1)) ⟨c, vs, bs⟩) w') := by
          obtain ⟨X', a1, a2, a3⟩ := hQ1
          refine ⟨X', a1, ⟨a2.old, fun g hg => ?_⟩, FW.out.trans a3 (fun _ _ h => h)⟩
          rcases a2.new g hg with q | ⟨q, q'⟩
          · exact .inl q
          · exact .inr ⟨Nat.le_trans FW.out.size q, q'⟩
        obtain ⟨X', a1, a2, a3⟩ := hQ1
        obtain ⟨lv', rb', hblk', _, _, _, _⟩ := a1.blk
        clear x0 x1 x2 x3 x4 a2 a3
        obtain ⟨x0, x1, x2, x3, x4⟩ := dv_cells hblk'
        have x4' : w'.cell? ⟨b, 4, none⟩ = some (.int .i64 (v.n + 1)) := x4
        clear x4 a1 hblk'
        go_wp2
        go_ret2
        exact ⟨by rw [vE.out, vN.out]; rfl, by rw [vV.out]; exact fin.out⟩
    · rw [if_neg hm] at vE
      rw [if_neg (fun q => hm q.2)] at vN vV
      have hm' : (4096 : Int) ≤ v.n := by omega
      have fin : Hid (DvP w X b ub v w2) := (DvP.refl h2).below BB
      go_wp2
      go_ret2
      exact ⟨by rw [vE.out, vN.out]; rfl, by rw [vV.out]; exact fin.out⟩
  · have hF1 : (F == 0) = false := by simpa using hF0
    rw [if_neg hF0] at vE
    rw [if_neg (fun q => hF0 q.1)] at vN vV
    have fin : Hid (DvP w X b ub v w2) := (DvP.refl h2).below BB
    go_wp2
    go_ret2
    exact ⟨by rw [vE.out, vN.out]; rfl, by rw [vV.out]; exact fin.out⟩
end Go.Proofs.YteomolihandfnaaGreat
