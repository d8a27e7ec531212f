/- View.Put, Make, Get. -/
import Derived.Test.YteomolihandfnaaGreatVkp
namespace Go.Proofs.YteomolihandfnaaGreat
open Go.RowKit
set_option maxRecDepth 100000
def putE (v : Vw) (t : Tab) (k : Int) (o : Ob) : Int := match peekR v t k with
  | none => 25
  | some _ => fitsE o.cls o.vs o.bs.length
def putV (v : Vw) (t : Tab) (k : Int) (o : Ob) : Vw := if putE v t k o = 0 then keepV v k o else v
theorem fits_good {c : Int} {vs : List (Int × Int)} {n : Nat} (h : fitsE c vs n = 0) : okWO c vs n = true := by
  unfold fitsE at h
  split at h
  · cases h
  · split at h
    · assumption
    · cases h
theorem VwP.refl {w : World} {V Q : Nat → Prop} {b tb : Nat} {v : Vw} (h : Vb w V Q b tb v) : VwP w V Q b tb v w := ⟨V, Q, h, Grow.refl _ _, Grow.refl _ _, Fr.refl _ _⟩
theorem VwP.of_below {w w' : World} {V Q : Nat → Prop} {b tb : Nat} {v : Vw} (h : Vb w V Q b tb v) (hb : Below w.heap.size w w') : VwP w V Q b tb v w' := (VwP.refl (h.below hb)).below hb
set_option maxHeartbeats 8000000 in
theorem put_any {W0 w : World} {V Q S R : Nat → Prop} {b tb : Nat} {v : Vw} {t : Tab} (h : Vb w V Q b tb v) (htb : Tb w S R tb t) (k : Int) {c : Int} {sa ba : Option Addr} {sn sc bn bc : Nat} {vs : List (Int × Int)} {bs : List Int} (hO : IsO W0 c sa sn sc ba bn bc vs bs) (hW0 : Below W0.heap.size W0 w) (hV0 : W0.heap.size ≤ b) :
    Calls Tryz.prog 16 #[.pointer (some ⟨b, 0, none⟩), .int .i64 k, .agg #[.int .i64 c, .slice sa sn sc, .slice ba bn bc]] w fun e w' => e = .returned (.int .i64 (putE v t k ⟨c, vs, bs⟩)) ∧ VwP w V Q b tb (putV v t k ⟨c, vs, bs⟩) w' := by
  have E5 := new1 w (objB c (.slice sa sn sc) (.slice ba bn bc))
  have B5 : Below w.heap.size w (w.alloc (objB c (.slice sa sn sc) (.slice ba bn bc))) := box_below
  have h1 := h.below B5
  have ht1 := htb.below B5
  have hb1 := hO.b.most
  have hb2 := hO.b.room
  have hb3 : Hid (bs.length = bn) := hO.b.size
  unfold objB at E5 B5 h1 ht1
  go_enter Tryz.func16, Tryz.ntmps16
  go_wp2_with fail
  generalize w.alloc (.cells #[.int .i64 c, .slice sa sn sc, .slice ba bn bc] 35) = w1 at *
  obtain ⟨b5, hb5⟩ : ∃ q, q = w.heap.size := ⟨_, rfl⟩
  rw [← hb5] at E5 ⊢
  clear hb5
  replace E5 : w1.heap[b5]? = some (objB c (.slice sa sn sc) (.slice ba bn bc)) := E5
  refine (peek_any h1 ht1 k).mono ?_
  rintro e w2 ⟨pa, pn, pc, qa, qn, qc, rfl, _, _, B2⟩
  have F5 := (B2.block b5 (lt_of_block E5)).trans E5
  have B6 : Below w2.heap.size w2 (w2.alloc (.cells #[.int .i64 (clsR (peekR v t k)), .slice pa pn pc, .slice qa qn qc] 35)) := box_below
  have G5 := (B6.block b5 (lt_of_block F5)).trans F5
  have B3 := below_size B5 B5.size B2
  have B4 := below_size B3 B3.size B6
  obtain ⟨y0, y1, y2, yf⟩ := obj_cells G5
  clear h1 ht1 E5 F5 B2 B6
  cases hp : peekR v t k with
  | none =>
    have eE : Hid (putE v t k ⟨c, vs, bs⟩ = 25) := by show putE v t k ⟨c, vs, bs⟩ = 25; unfold putE; rw [hp]
    have eV : Hid (putV v t k ⟨c, vs, bs⟩ = v) := by show putV v t k ⟨c, vs, bs⟩ = v; unfold putV; rw [eE.out]; rfl
    rw [hp] at B4 y0 y1 y2
    replace hp : Hid _ := hp
    simp only [errR, clsR] at B4 y0 y1 y2 ⊢
    have fin : Hid (VwP w V Q b tb v _) := VwP.of_below h B4
    go_wp2
    go_ret
    exact ⟨by rw [eE.out]; rfl, by rw [eV.out]; exact fin.out⟩
  | some o =>
    have eE : Hid (putE v t k ⟨c, vs, bs⟩ = fitsE c vs bn) := by show putE v t k ⟨c, vs, bs⟩ = _; unfold putE; rw [hp, ← hb3.out]
    rw [hp] at B4 G5 y0 y1 y2
    replace hp : Hid _ := hp
    simp only [errR, clsR] at B4 G5 y0 y1 y2 ⊢
    have h4 := h.below B4
    have hW4 := below_size hW0 hW0.size B4
    go_wp2_with fail
    generalize w2.alloc (.cells #[.int .i64 o.cls, .slice pa pn pc, .slice qa qn qc] 35) = w4 at *
    refine (fits_any c (hO.below hW4).v (Nat.le_trans hb2 hb1)).mono ?_
    rintro e w7 ⟨rfl, B7⟩
    have H5 := (B7.block b5 (lt_of_block G5)).trans G5
    have B8 := below_size B4 B4.size B7
    have h8 := h.below B8
    have hW8 := below_size hW0 hW0.size B8
    clear y0 y1 y2 yf
    obtain ⟨y0, y1, y2, yf⟩ := obj_cells H5
    by_cases hf : fitsE c vs bn = 0
    · have hG : ObG ⟨c, vs, bs⟩ := by show okWO c vs bs.length = true; rw [hb3.out]; exact fits_good hf
      have eV : Hid (putV v t k ⟨c, vs, bs⟩ = keepV v k ⟨c, vs, bs⟩) := by show putV v t k ⟨c, vs, bs⟩ = _; unfold putV; rw [eE.out, hf]; rfl
      rw [hf] at eE ⊢
      clear hf
      go_wp2_with fail
      refine (keep_any h8 k hO hW8 hV0 hG).mono ?_
      rintro e w9 ⟨rfl, hP⟩
      have fin := VwP.below B8 hP
      go_wp2
      go_ret
      exact ⟨by rw [eE.out]; rfl, by rw [eV.out]; exact fin⟩
    · have hf' : (fitsE c vs bn == 0) = false := by simpa using hf
      have eV : Hid (putV v t k ⟨c, vs, bs⟩ = v) := by show putV v t k ⟨c, vs, bs⟩ = v; unfold putV; rw [eE.out, if_neg hf]
      have fin : Hid (VwP w V Q b tb v w7) := VwP.of_below h B8
      obtain ⟨fe, hfe⟩ : ∃ q, Hid (fitsE c vs bn = q) := ⟨_, rfl⟩
      rw [hfe.out] at hf hf' eE ⊢
      go_wp2
      go_ret
      exact ⟨by rw [eE.out]; rfl, by rw [eV.out]; exact fin.out⟩
theorem VwP.comp {w w1 w2 : World} {V Q V1 Q1 : Nat → Prop} {b tb : Nat} {v2 : Vw} (g1 : Grow V V1 w w1) (g2 : Grow Q Q1 w w1) (f1 : Fr V w w1) (k : VwP w1 V1 Q1 b tb v2 w2) : VwP w V Q b tb v2 w2 := by
  have hn : ∀ g, V1 g → V g ∨ w.heap.size ≤ g := fun g hg => (g1.new g hg).imp (fun h => h) (fun h => h.1)
  obtain ⟨V2, Q2, k1, k2, k3, k4⟩ := k
  exact ⟨V2, Q2, k1, g1.trans k2 f1.size k4.size, g2.trans k3 f1.size k4.size, f1.trans k4 (fun g hg hv => (hn g hv).elim (fun h => h) (fun h => by omega))⟩
theorem Vb.setMade {w : World} {V Q : Nat → Prop} {b tb : Nat} {v : Vw} (h : Vb w V Q b tb v) {m : Int} (hm : 0 ≤ m ∧ m ≤ 4096) : VwP w V Q b tb ⟨v.base, v.reads, v.own, m⟩ (w.setCell ⟨b, 4, none⟩ (.int .i64 m)) := by
  obtain ⟨rm, om, h1, h2, h3, h4⟩ := h.blk
  have oth : ∀ g, g ≠ b → (w.setCell ⟨b, 4, none⟩ (.int .i64 m)).heap[g]? = w.heap[g]? := fun g hg => heap_setCell_other w ⟨b, 4, none⟩ g _ hg
  have mp : ∀ mb es c, w.heap[mb]? = some (Obj.map es c) → mb ≠ b := fun mb es c hh e => by
    rw [e, h1] at hh
    cases hh
  have B0 : Below 0 w (w.setCell ⟨b, 4, none⟩ (.int .i64 m)) := (Below.refl _ w).setCell (p := ⟨b, 4, none⟩) (Nat.zero_le _) _
  refine ⟨V, Q, ⟨⟨rm, om, view_set4 h1 m, h2.same (fun _ h => h) (fun mb e => ?_), h3.same (fun _ h => h) (fun _ h => h) (fun mb e => ?_) (fun g hg => oth g (fun e => h.dis g hg (e ▸ h.own))), h4⟩, h.own, fun g hg => by simpa using h.lt g hg, h.dis, fun g cur e hg hh => ?_, hm, h.good⟩, ⟨fun _ h => h, fun _ h => .inl h⟩, ⟨fun _ h => h, fun _ h => .inl h⟩, ⟨B0.os, B0.tape, B0.output, B0.size, fun g hg hn => oth g (fun e => hn (e ▸ h.own))⟩⟩
  · obtain ⟨_, es, c, z⟩ := h2.in_ e
    exact oth mb (mp mb es c z)
  · obtain ⟨_, es, c, z⟩ := h3.in_ e
    exact oth mb (mp mb es c z)
  · by_cases e1 : g = b
    · rw [e1, view_set4 h1 m] at hh
      unfold viewB at hh
      cases hh
      rfl
    · exact h.ty g cur e hg (by rw [← oth g e1]; exact hh)
theorem wrap64 {n : Int} (h1 : -9223372036854775808 ≤ n) (h2 : n ≤ 9223372036854775807) : IntKind.i64.wrap n = n := by rw [IntKind.wrap_i64]; omega
def makeN (v : Vw) (o : Ob) : Int := if fitsE o.cls o.vs o.bs.length = 0 ∧ v.made < 4096 then 4096 + (v.made + 1) else 0
def makeE (v : Vw) (o : Ob) : Int := if fitsE o.cls o.vs o.bs.length = 0 then (if v.made < 4096 then 0 else 4) else fitsE o.cls o.vs o.bs.length
def makeV (v : Vw) (o : Ob) : Vw := if fitsE o.cls o.vs o.bs.length = 0 ∧ v.made < 4096 then keepV ⟨v.base, v.reads, v.own, v.made + 1⟩ (4096 + (v.made + 1)) o else v
set_option maxHeartbeats 8000000 in
theorem make_any {W0 w : World} {V Q : Nat → Prop} {b tb : Nat} {v : Vw} (h : Vb w V Q b tb v) {c : Int} {sa ba : Option Addr} {sn sc bn bc : Nat} {vs : List (Int × Int)} {bs : List Int} (hO : IsO W0 c sa sn sc ba bn bc vs bs) (hW0 : Below W0.heap.size W0 w) (hV0 : W0.heap.size ≤ b) :
    Calls Tryz.prog 18 #[.pointer (some ⟨b, 0, none⟩), .agg #[.int .i64 c, .slice sa sn sc, .slice ba bn bc]] w fun e w' => e = .returned (.tuple #[.int .i64 (makeN v ⟨c, vs, bs⟩), .int .i64 (makeE v ⟨c, vs, bs⟩)]) ∧ VwP w V Q b tb (makeV v ⟨c, vs, bs⟩) w' := by
  have E3 := new1 w (objB c (.slice sa sn sc) (.slice ba bn bc))
  have B3 : Below w.heap.size w (w.alloc (objB c (.slice sa sn sc) (.slice ba bn bc))) := box_below
  have hW1 := below_size hW0 hW0.size B3
  have hb1 := hO.b.most
  have hb2 := hO.b.room
  have hb3 : Hid (bs.length = bn) := hO.b.size
  have hbb : Hid (b < w.heap.size) := h.lt b (.inl h.own)
  obtain ⟨y0, y1, y2, yf⟩ := obj_cells E3
  unfold objB at E3 B3 hW1 y0 y1 y2
  go_enter Tryz.func18, Tryz.ntmps18
  go_wp2_with fail
  generalize w.alloc (.cells #[.int .i64 c, .slice sa sn sc, .slice ba bn bc] 35) = w1 at *
  obtain ⟨b3, hb3e⟩ : ∃ q, q = w.heap.size := ⟨_, rfl⟩
  rw [← hb3e] at E3 y0 y1 y2 ⊢
  replace hb3e : Hid _ := hb3e
  replace E3 : w1.heap[b3]? = some (objB c (.slice sa sn sc) (.slice ba bn bc)) := E3
  refine (fits_any c (hO.below hW1).v (Nat.le_trans hb2 hb1)).mono ?_
  rintro e w2 ⟨rfl, B2⟩
  have F3 := (B2.block b3 (lt_of_block E3)).trans E3
  have BB := below_size B3 B3.size B2
  have h2 := h.below BB
  have hW2 := below_size hW0 hW0.size BB
  clear y0 y1 y2 yf E3 B2 B3 hW1
  obtain ⟨y0, y1, y2, yf⟩ := obj_cells F3
  obtain ⟨rm, om, hblk, _, _, _⟩ := h2.blk
  obtain ⟨x0, x1, x2, x3, x4⟩ := view_cells hblk
  have xf := view_frozen hblk 4
  have hm0 := h.made0
  by_cases hf : fitsE c vs bn = 0
  · have hG : ObG ⟨c, vs, bs⟩ := by show okWO c vs bs.length = true; rw [hb3.out]; exact fits_good hf
    have hf2 : Hid (fitsE c vs bs.length = 0) := by show fitsE c vs bs.length = 0; rw [hb3.out]; exact hf
    rw [hf]
    clear hf
    by_cases hm : v.made < 4096
    · have eN : Hid (makeN v ⟨c, vs, bs⟩ = 4096 + (v.made + 1)) := by show makeN v ⟨c, vs, bs⟩ = _; unfold makeN; rw [if_pos ⟨hf2.out, hm⟩]
      have eE : Hid (makeE v ⟨c, vs, bs⟩ = 0) := by show makeE v ⟨c, vs, bs⟩ = _; unfold makeE; rw [if_pos hf2.out, if_pos hm]
      have eV : Hid (makeV v ⟨c, vs, bs⟩ = keepV ⟨v.base, v.reads, v.own, v.made + 1⟩ (4096 + (v.made + 1)) ⟨c, vs, bs⟩) := by show makeV v ⟨c, vs, bs⟩ = _; unfold makeV; rw [if_pos ⟨hf2.out, hm⟩]
      have hm1 : ¬ (4096 : Int) ≤ v.made := by omega
      have w4 : IntKind.i64.wrap (v.made + 1) = v.made + 1 := wrap64 (by omega) (by omega)
      have w5 : IntKind.i64.wrap (4096 + (v.made + 1)) = 4096 + (v.made + 1) := wrap64 (by omega) (by omega)
      have P4 := h2.setMade (m := v.made + 1) (by omega)
      obtain ⟨z0, z1, z2, z3, z4⟩ := view_cells (view_set4 hblk (v.made + 1))
      have n3 : b3 ≠ b := by have h1 := hbb.out; have h2 := hb3e.out; omega
      have G3 := (heap_setCell_other w2 ⟨b, 4, none⟩ b3 (.int .i64 (v.made + 1)) n3).trans F3
      obtain ⟨u0, u1, u2, uf⟩ := obj_cells G3
      have hW4 : Below W0.heap.size W0 (w2.setCell ⟨b, 4, none⟩ (.int .i64 (v.made + 1))) := hW2.setCell (p := ⟨b, 4, none⟩) hV0 _
      clear hm0 hm
      obtain ⟨V1, Q1, k1, k2, k3, k4⟩ := P4
      go_wp2_with fail
      refine (keep_any k1 (4096 + (v.made + 1)) hO hW4 hV0 hG).mono ?_
      rintro e w9 ⟨rfl, hP⟩
      have fin := VwP.below BB (VwP.comp k2 k3 k4 hP)
      clear hP k1 k2 k3 k4
      go_wp2
      go_ret2
      exact ⟨by rw [eN.out, eE.out]; rfl, by rw [eV.out]; exact fin⟩
    · have eN : Hid (makeN v ⟨c, vs, bs⟩ = 0) := by show makeN v ⟨c, vs, bs⟩ = _; unfold makeN; rw [if_neg (fun h => hm h.2)]
      have eE : Hid (makeE v ⟨c, vs, bs⟩ = 4) := by show makeE v ⟨c, vs, bs⟩ = _; unfold makeE; rw [if_pos hf2.out, if_neg hm]
      have eV : Hid (makeV v ⟨c, vs, bs⟩ = v) := by show makeV v ⟨c, vs, bs⟩ = _; unfold makeV; rw [if_neg (fun h => hm h.2)]
      have hm1 : (4096 : Int) ≤ v.made := by omega
      have fin : Hid (VwP w V Q b tb v w2) := VwP.of_below h BB
      clear hm0 hm
      go_wp2
      go_ret2
      exact ⟨by rw [eN.out, eE.out]; rfl, by rw [eV.out]; exact fin.out⟩
  · have hf2 : ¬ fitsE c vs bs.length = 0 := by rw [hb3.out]; exact hf
    have hf' : (fitsE c vs bn == 0) = false := by simpa using hf
    have eN : Hid (makeN v ⟨c, vs, bs⟩ = 0) := by show makeN v ⟨c, vs, bs⟩ = _; unfold makeN; rw [if_neg (fun h => hf2 h.1)]
    have eE : Hid (makeE v ⟨c, vs, bs⟩ = fitsE c vs bn) := by show makeE v ⟨c, vs, bs⟩ = _; unfold makeE; rw [if_neg hf2, hb3.out]
    have eV : Hid (makeV v ⟨c, vs, bs⟩ = v) := by show makeV v ⟨c, vs, bs⟩ = _; unfold makeV; rw [if_neg (fun h => hf2 h.1)]
    have fin : Hid (VwP w V Q b tb v w2) := VwP.of_below h BB
    obtain ⟨fe, hfe⟩ : ∃ q, Hid (fitsE c vs bn = q) := ⟨_, rfl⟩
    rw [hfe.out] at hf hf' eE ⊢
    clear hf2 hm0
    go_wp2
    go_ret2
    exact ⟨by rw [eN.out, eE.out]; rfl, by rw [eV.out]; exact fin.out⟩
theorem readV_peek (v : Vw) (t : Tab) (k i : Int) : peekR (readV v k) t i = peekR v t i := by unfold readV; split <;> rfl
theorem Tryz.results7 : Tryz.f7.results = #[.cell 4 35, .tmp 5] := by kernel_rfl
set_option maxHeartbeats 8000000 in
theorem get_any {w : World} {V Q S R : Nat → Prop} {b tb : Nat} {v : Vw} {t : Tab} (h : Vb w V Q b tb v) (htb : Tb w S R tb t) (hd : ∀ g, S g ∨ R g → ¬ V g) (k : Int) :
    Calls Tryz.prog 7 #[.pointer (some ⟨b, 0, none⟩), .int .i64 k] w fun e w' => ∃ sa sn sc ba bn bc, e = .returned (.tuple #[.agg #[.int .i64 (clsR (peekR v t k)), .slice sa sn sc, .slice ba bn bc], .int .i64 (errR (peekR v t k))]) ∧ OwnV w' w.heap.size (.slice sa sn sc) (vsR (peekR v t k)) ∧ OwnB w' w.heap.size (.slice ba bn bc) (bsR (peekR v t k)) ∧ VwP w V Q b tb (readV v k) w' := by
  have E4 := new1 w (objB 0 (.slice none 0 0) (.slice none 0 0))
  have B4 : Below w.heap.size w (w.alloc (objB 0 (.slice none 0 0) (.slice none 0 0))) := box_below
  have h1 := h.below B4
  have ht1 := htb.below B4
  have l4 : w.heap.size ≤ w.heap.size := Nat.le_refl _
  have s4 : w.heap.size < (w.alloc (objB 0 (.slice none 0 0) (.slice none 0 0))).heap.size := by simp
  unfold objB at E4 B4 h1 ht1 s4
  go_enter Tryz.func7, Tryz.ntmps7
  go_wp2_with fail
  generalize w.alloc (.cells #[.int .i64 0, .slice none 0 0, .slice none 0 0] 35) = w1 at *
  obtain ⟨b4, hb4⟩ : ∃ q, q = w.heap.size := ⟨_, rfl⟩
  rw [← hb4] at E4 ⊢
  replace l4 : w.heap.size ≤ b4 := Nat.le_of_eq hb4.symm
  replace E4 : w1.heap[b4]? = some (objB 0 (.slice none 0 0) (.slice none 0 0)) := E4
  have e4 : b4 < w1.heap.size := lt_of_block' E4
  have hv4 : ∀ g, V g ∨ Q g → g ≠ b4 := fun g hg e => by have := h.lt g hg; omega
  clear hb4 s4
  refine (read_any h1 k).mono ?_
  rintro e w2 ⟨rfl, V2, Q2, k1, k2, k3, k4⟩
  have ht2 : Tb w2 S R tb t := ht1.same k4.size (fun g hg => k4.block g (ht1.sets.lt hg) (hd g hg))
  have F4 : w2.heap[b4]? = some (objB 0 (.slice none 0 0) (.slice none 0 0)) := (k4.block b4 e4 (fun hg => hv4 b4 (.inl hg) rfl)).trans E4
  have hv2 : ∀ g, V2 g ∨ Q2 g → g ≠ b4 := fun g hg e => by
    rcases hg with hg | hg
    · rcases k2.new g hg with z | ⟨z, _⟩
      · exact hv4 g (.inl z) e
      · omega
    · rcases k3.new g hg with z | ⟨z, _⟩
      · exact hv4 g (.inr z) e
      · omega
  clear E4 ht1
  go_wp2_with fail
  refine (peek_any k1 ht2 k).mono ?_
  rw [readV_peek]
  rintro e w3 ⟨pa, pn, pc, qa, qn, qc, rfl, oV, oB, B3⟩
  have G4 := (B3.block b4 (lt_of_block F4)).trans F4
  obtain ⟨z0, z1, z2, zf⟩ := obj_cells G4
  have I4 := stO_blk G4 (clsR (peekR v t k)) (.slice pa pn pc) (.slice qa qn qc)
  have s12 : w.heap.size ≤ w2.heap.size := Nat.le_trans B4.size k4.size
  have oV3 := ownV_of (stO_own (oV.mono s12).1 G4 (by decide) (clsR (peekR v t k)) (.slice pa pn pc) (.slice qa qn qc)) oV.wf
  have oB3 := ownB_of (stO_own (oB.mono s12).1 G4 (by decide) (clsR (peekR v t k)) (.slice pa pn pc) (.slice qa qn qc)) oB.byte
  have fin : Hid (VwP w V Q b tb (readV v k) (stO w3 b4 (clsR (peekR v t k)) (.slice pa pn pc) (.slice qa qn qc))) := by
    have Bs : Below 0 w3 (stO w3 b4 (clsR (peekR v t k)) (.slice pa pn pc) (.slice qa qn qc)) := stO_below (Below.refl _ _) (Nat.zero_le _) _ _ _
    have s13 := Nat.le_trans B3.size Bs.size
    have s1 := B4.size
    refine ⟨V2, Q2, k1.same s13 (fun g hg => (stO_other (hv2 g hg) _ _ _).trans (B3.block g (k1.lt g hg))), ⟨k2.old, fun g hg => ?_⟩, ⟨k3.old, fun g hg => ?_⟩, ⟨Bs.os.trans (B3.os.trans (k4.os.trans B4.os)), Bs.tape.trans (B3.tape.trans (k4.tape.trans B4.tape)), Bs.output.trans (B3.output.trans (k4.output.trans B4.output)), Nat.le_trans s12 s13, fun g hg hn => (stO_other (by omega) _ _ _).trans ((B3.block g (by omega)).trans ((k4.block g (by omega) hn).trans (B4.block g hg)))⟩⟩
    · rcases k2.new g hg with z | ⟨z, z'⟩
      · exact .inl z
      · exact .inr ⟨by omega, by omega⟩
    · rcases k3.new g hg with z | ⟨z, z'⟩
      · exact .inl z
      · exact .inr ⟨by omega, by omega⟩
  clear oV oB k1 ht2 F4
  go_wp2
  clear z0 z1 z2 zf
  obtain ⟨z0, z1, z2, zf⟩ := obj_cells I4
  exact bodyPost_ret (v := .tuple #[.agg #[.int .i64 (clsR (peekR v t k)), .slice pa pn pc, .slice qa qn qc], .int .i64 (errR (peekR v t k))]) (results_twoP Tryz.results7 rfl (load49 z0 z1 z2) rfl) rfl ⟨_, _, _, _, _, _, rfl, oV3, oB3, fin.out⟩
end Go.Proofs.YteomolihandfnaaGreat
