/- View.Peek. -/
import Derived.Test.YteomolihandfnaaGreatVrd
namespace Go.Proofs.YteomolihandfnaaGreat
open Go.RowKit
set_option maxRecDepth 100000
/-- A look-up that tells whether it is there. -/
theorem IsMap.lookup_ok {P : Program} {w : World} {b : Nat} {f : Int → Option Value} (h : IsMap w b f) {t kt et : TypeId} (ht : P.underlying t = some (.map kt et)) (hk : P.underlying kt = some (.int .i64)) {z : Value} (hz : (zeroValue et).run P w = .ok z w) (k : Int) :
    (Instr.lookup t (.map (some b)) (.int .i64 k) true).run P w = .ok (.tuple #[(f k).getD z, .bool (f k).isSome]) w := by
  obtain ⟨L, c, hb, hn, hf, _⟩ := h
  rw [hf]
  cases hi : L.findIdx? (fun p => decide (p.1 = k)) with
  | none =>
    rw [lk_none.1 hi]
    simp [Instr.lookup, run_underlying ht, MapKept.run_getObj_map hb, run_checkKey hk, run_findKey hk, hi, hz, Result.andThen]
  | some j =>
    obtain ⟨v, _, _, hv⟩ := lk_some hi
    simp [Instr.lookup, run_underlying ht, MapKept.run_getObj_map hb, run_checkKey hk, run_findKey hk, hi, hv, Result.andThen]
theorem look_own_nil (w : World) (k : Int) : (Instr.lookup 76 (.map none) (.int .i64 k) true).run Tryz.prog w = .ok (.tuple #[.agg #[.int .i64 0, .slice none 0 0, .slice none 0 0], .bool false]) w := by
  have hz := Tryz.zeroValue35 w
  have hck := run_checkKey (P := Tryz.prog) (w := w) (kt := 2) Tryz.underlying2
  have hf := run_findKey (P := Tryz.prog) (w := w) (kt := 2) Tryz.underlying2 k []
  simp at hf
  simp [Instr.lookup, run_underlying Tryz.underlying76, hz, hck, hf, Result.andThen]
/-- What stands in the map of one's own. -/
theorem OwM.look {w : World} {V Q : Nat → Prop} {om : Option Nat} {ow : Int → Option Ob} (h : OwM w V Q om ow) (k : Int) :
    (ow k = none ∧ (Instr.lookup 76 (.map om) (.int .i64 k) true).run Tryz.prog w = .ok (.tuple #[.agg #[.int .i64 0, .slice none 0 0, .slice none 0 0], .bool false]) w) ∨
    ∃ o v, ow k = some o ∧ ObV w Q v o ∧ (Instr.lookup 76 (.map om) (.int .i64 k) true).run Tryz.prog w = .ok (.tuple #[v, .bool true]) w := by
  cases om with
  | none => exact .inl ⟨h k, look_own_nil w k⟩
  | some mb =>
    obtain ⟨F, h1, h2, h3⟩ := h
    have hl := h1.lookup_ok (P := Tryz.prog) (t := 76) Tryz.underlying76 Tryz.underlying2 (Tryz.zeroValue35 w) k
    have h4 := h3 k
    cases hF : F k with
    | none =>
      rw [hF] at h4 hl
      exact .inl ⟨h4, hl⟩
    | some v =>
      rw [hF] at h4 hl
      obtain ⟨o, e1, e2⟩ := h4
      exact .inr ⟨o, v, e1, e2, hl⟩
def toOb : Option Ch → Option Ob | none => none | some x => some ⟨x.cls, x.vs, x.bs⟩
def peekR (v : Vw) (t : Tab) (k : Int) : Option Ob := match v.own k with
  | some o => some o
  | none => toOb (atO t v.base k)
def clsR : Option Ob → Int | none => 0 | some x => x.cls
def vsR : Option Ob → List (Int × Int) | none => [] | some x => x.vs
def bsR : Option Ob → List Int | none => [] | some x => x.bs
def errR : Option Ob → Int | none => 25 | some _ => 0
/-- What Peek tells. -/
def PkQ (w : World) (r : Option Ob) (e : Ending) (w' : World) : Prop := ∃ sa sn sc ba bn bc, e = .returned (.tuple #[.agg #[.int .i64 (clsR r), .slice sa sn sc, .slice ba bn bc], .int .i64 (errR r)]) ∧ OwnV w' w.heap.size (.slice sa sn sc) (vsR r) ∧ OwnB w' w.heap.size (.slice ba bn bc) (bsR r) ∧ Below w.heap.size w w'
theorem at_shape {w : World} {S R : Nat → Prop} {b : Nat} {t : Tab} (h : Tb w S R b t) (c k : Int) : Calls Tryz.prog 41 #[.pointer (some ⟨b, 0, none⟩), .int .i64 c, .int .i64 k] w fun e w' => ∃ va vn vc qa qn qc, e = .returned (.tuple #[.agg #[.int .i64 (clsO (atO t c k)), .slice va vn vc, .slice qa qn qc], .int .i64 (atE t c k)]) ∧ OwnV w' w.heap.size (.slice va vn vc) (vsO (atO t c k)) ∧ OwnB w' w.heap.size (.slice qa qn qc) (bsO (atO t c k)) ∧ Below w.heap.size w w' := by
  refine (atT_any h c k).mono ?_
  rintro e w' ⟨vv, bv, rfl, o1, o2, B⟩
  obtain ⟨va, vn, vc, rfl⟩ := o1.shape'
  obtain ⟨qa, qn, qc, rfl⟩ := o2.shape'
  exact ⟨va, vn, vc, qa, qn, qc, rfl, o1, o2, B⟩
theorem at_shapeX {w : World} {S R : Nat → Prop} {b : Nat} {t : Tab} (h : Tb w S R b t) (c k : Int) {X : Option Ch} {E : Int} (hX : atO t c k = X) (hE : atE t c k = E) : Calls Tryz.prog 41 #[.pointer (some ⟨b, 0, none⟩), .int .i64 c, .int .i64 k] w fun e w' => ∃ va vn vc qa qn qc, e = .returned (.tuple #[.agg #[.int .i64 (clsO X), .slice va vn vc, .slice qa qn qc], .int .i64 E]) ∧ OwnV w' w.heap.size (.slice va vn vc) (vsO X) ∧ OwnB w' w.heap.size (.slice qa qn qc) (bsO X) ∧ Below w.heap.size w w' := by
  subst hX
  subst hE
  exact at_shape h c k
theorem atE_none {t : Tab} {c k : Int} (h : atO t c k = none) : atE t c k ≠ 0 := by
  unfold atO at h
  unfold atE
  split at h
  · rename_i hh
    rw [if_pos hh, h]
    simp
  · rename_i hh
    rw [if_neg hh]
    simp
theorem atE_some {t : Tab} {c k : Int} {x : Ch} (h : atO t c k = some x) : atE t c k = 0 := by
  unfold atO at h
  unfold atE
  split at h
  · rename_i hh
    rw [if_pos hh, h]
  · cases h
theorem Tryz.results11 : Tryz.f11.results = #[.cell 4 35, .tmp 5] := by kernel_rfl
theorem copy_shape {w : World} {c : Int} {sa ba : Option Addr} {sn sc bn bc : Nat} {vs : List (Int × Int)} {bs : List Int} (h : IsO w c sa sn sc ba bn bc vs bs) (hs : sn ≤ 8796093022208) (hb : bn ≤ 140737488355328) :
    Calls Tryz.prog 40 #[.agg #[.int .i64 c, .slice sa sn sc, .slice ba bn bc]] w fun e w' => ∃ ga gn gc qa qn qc, e = .returned (.agg #[.int .i64 c, .slice ga gn gc, .slice qa qn qc]) ∧ OwnV w' w.heap.size (.slice ga gn gc) vs ∧ OwnB w' w.heap.size (.slice qa qn qc) bs ∧ Below w.heap.size w w' := by
  refine (copy_any h hs hb).mono ?_
  rintro e w' ⟨vv, bv, rfl, o1, o2, B⟩
  obtain ⟨ga, gn, gc, rfl⟩ := o1.shape'
  obtain ⟨qa, qn, qc, rfl⟩ := o2.shape'
  exact ⟨ga, gn, gc, qa, qn, qc, rfl, o1, o2, B⟩
theorem okWO_len {c : Int} {vs : List (Int × Int)} {n : Nat} (h : okWO c vs n = true) : vs.length ≤ 256 ∧ n ≤ 1024 ∧ 1 ≤ c ∧ c ≤ 8192 := by
  unfold okWO okR2 at h
  simp at h
  omega
set_option maxHeartbeats 8000000 in
theorem peek_any {w : World} {V Q S R : Nat → Prop} {b tb : Nat} {v : Vw} {t : Tab} (h : Vb w V Q b tb v) (htb : Tb w S R tb t) (k : Int) :
    Calls Tryz.prog 11 #[.pointer (some ⟨b, 0, none⟩), .int .i64 k] w fun e w' => PkQ w (peekR v t k) e w' := by
  have E4 := new1 w (objB 0 (.slice none 0 0) (.slice none 0 0))
  have B4 : Below w.heap.size w (w.alloc (objB 0 (.slice none 0 0) (.slice none 0 0))) := box_below
  have h1 := h.below B4
  have ht1 := htb.below B4
  have l4 : w.heap.size ≤ w.heap.size := Nat.le_refl _
  unfold objB at E4 B4 h1 ht1
  go_enter Tryz.func11, Tryz.ntmps11
  go_upto_region 3 with fail
  generalize w.alloc (.cells #[.int .i64 0, .slice none 0 0, .slice none 0 0] 35) = w1 at *
  obtain ⟨b4, hb4⟩ : ∃ q, q = w.heap.size := ⟨_, rfl⟩
  rw [← hb4] at E4 ⊢
  replace l4 : w.heap.size ≤ b4 := Nat.le_of_eq hb4.symm
  clear hb4
  replace E4 : w1.heap[b4]? = some (objB 0 (.slice none 0 0) (.slice none 0 0)) := E4
  obtain ⟨rm, om, hblk, hR, hO, _⟩ := h1.blk
  obtain ⟨x0, x1, x2, x3, x4⟩ := view_cells hblk
  rcases hO.look k with ⟨hk, hl⟩ | ⟨o, vv, hk, ⟨sa, sn, sc, ba, bn, bc, rfl, o1, o2, _, _⟩, hl⟩
  · obtain ⟨X, hX⟩ : ∃ X, Hid (atO t v.base k = X) := ⟨_, rfl⟩
    obtain ⟨E, hE⟩ : ∃ E, Hid (atE t v.base k = E) := ⟨_, rfl⟩
    have hP : Hid (peekR v t k = toOb X) := by show peekR v t k = _; unfold peekR; rw [hk, hX.out]
    have E6 := new1 w1 (objB 0 (.slice none 0 0) (.slice none 0 0))
    have B6 : Below w1.heap.size w1 (w1.alloc (objB 0 (.slice none 0 0) (.slice none 0 0))) := box_below
    have G4 := (B6.block b4 (lt_of_block E4)).trans E4
    have hblk6 := (B6.block b (lt_of_block' hblk)).trans hblk
    have ht := ht1.below B6
    have BB := below_size B4 B4.size B6
    unfold objB at E6 B6 BB ht
    clear E4 B6 h1 ht1 hR hO hk
    go_upto_region 6 with fail
    clear x0 x1 x2 x3 x4
    replace hblk6 : (w1.alloc (.cells #[.int .i64 0, .slice none 0 0, .slice none 0 0] 35)).heap[b]? = some (viewB tb v.base rm om v.made) := hblk6
    replace G4 : (w1.alloc (.cells #[.int .i64 0, .slice none 0 0, .slice none 0 0] 35)).heap[b4]? = some (objB 0 (.slice none 0 0) (.slice none 0 0)) := G4
    generalize w1.alloc (.cells #[.int .i64 0, .slice none 0 0, .slice none 0 0] 35) = wq at *
    have n0 : X = none → E ≠ 0 := fun e => by rw [← hE.out]; exact atE_none (hX.out.trans e)
    have n1 : ∀ x, X = some x → E = 0 := fun x e => by rw [← hE.out]; exact atE_some (hX.out.trans e)
    replace n0 : Hid _ := n0
    replace n1 : Hid _ := n1
    obtain ⟨base, hbase⟩ : ∃ q, q = v.base := ⟨_, rfl⟩
    rw [← hbase] at hblk6 hX hE
    clear hbase hblk E6 hl
    obtain ⟨x0, x1, x2, x3, x4⟩ := view_cells hblk6
    refine wp_region_inv' (fun A D a w' => ∃ v26 v27 v28 v29 v30 v31 v32 v33 v34 v35 v25 v36 v37 v8 v9 va vn vc qa qn qc b8, a = (((((((((((((((A.put (some 26) v26).put (some 27) v27).put (some 28) v28).put (some 29) v29).put (some 30) v30).put (some 31) v31).put (some 32) v32).put (some 33) v33).put (some 34) v34).put (some 35) v35).put (some 25) v25).put (some 36) v36).put (some 37) v37).put (some 8) v8).put (some 9) v9) ∧ Below wq.heap.size wq w' ∧ (D 0 → v26 = .pointer (some ⟨b, 0, none⟩)) ∧ (D 1 → v27 = .pointer (some ⟨b, 0, none⟩)) ∧ (D 2 → v28 = .pointer (some ⟨b, 0, none⟩)) ∧ (D 3 → v29 = .pointer (some ⟨tb, 0, none⟩)) ∧ (D 4 → v30 = .pointer (some ⟨b, 0, none⟩)) ∧ (D 5 → v31 = .pointer (some ⟨b, 0, none⟩)) ∧ (D 6 → v32 = .pointer (some ⟨b, 1, none⟩)) ∧ (D 7 → v33 = .int .i64 base) ∧ (D 8 → v34 = .int .i64 k) ∧ (D 9 → v35 = .tuple #[.agg #[.int .i64 (clsO X), .slice va vn vc, .slice qa qn qc], .int .i64 E]) ∧ (D 10 → v25 = .tuple #[.agg #[.int .i64 (clsO X), .slice va vn vc, .slice qa qn qc], .int .i64 E]) ∧ (D 11 → v36 = .agg #[.int .i64 (clsO X), .slice va vn vc, .slice qa qn qc]) ∧ (D 12 → v37 = .int .i64 E) ∧ (D 13 → v8 = .pointer (some ⟨b8, 0, none⟩)) ∧ (D 15 → v9 = .int .i64 E) ∧ (D 9 → OwnV w' wq.heap.size (.slice va vn vc) (vsO X) ∧ OwnB w' wq.heap.size (.slice qa qn qc) (bsO X)) ∧ (D 14 → w'.heap[b8]? = some (objB (clsO X) (.slice va vn vc) (.slice qa qn qc)) ∧ wq.heap.size ≤ b8) ∧ (D 13 → ¬ D 14 → w'.heap[b8]? = some (objB 0 (.slice none 0 0) (.slice none 0 0)) ∧ wq.heap.size ≤ b8)) (by kernel_rfl) (by kernel_rfl) ?mono ?start ?step ?done
    case mono =>
      rintro D D' a w' hD ⟨v26, v27, v28, v29, v30, v31, v32, v33, v34, v35, v25, v36, v37, v8, v9, va, vn, vc, qa, qn, qc, b8, ha, hB, e0, e1, e2, e3, e4, e5, e6, e7, e8, e9, e10, e11, e12, e13, e15, h9, hS, hN⟩
      exact ⟨v26, v27, v28, v29, v30, v31, v32, v33, v34, v35, v25, v36, v37, v8, v9, va, vn, vc, qa, qn, qc, b8, ha, hB, fun h => e0 ((hD 0).2 h), fun h => e1 ((hD 1).2 h), fun h => e2 ((hD 2).2 h), fun h => e3 ((hD 3).2 h), fun h => e4 ((hD 4).2 h), fun h => e5 ((hD 5).2 h), fun h => e6 ((hD 6).2 h), fun h => e7 ((hD 7).2 h), fun h => e8 ((hD 8).2 h), fun h => e9 ((hD 9).2 h), fun h => e10 ((hD 10).2 h), fun h => e11 ((hD 11).2 h), fun h => e12 ((hD 12).2 h), fun h => e13 ((hD 13).2 h), fun h => e15 ((hD 15).2 h), fun h => h9 ((hD 9).2 h), fun h => hS ((hD 14).2 h), fun h h' => hN ((hD 13).2 h) (fun k => h' ((hD 14).1 k))⟩
    case start => exact ⟨undef, undef, undef, undef, undef, undef, undef, undef, undef, undef, undef, undef, undef, undef, undef, none, 0, 0, none, 0, 0, 0, by kernel_rfl, (Below.refl _ _).drew, fun h => h.elim, fun h => h.elim, fun h => h.elim, fun h => h.elim, fun h => h.elim, fun h => h.elim, fun h => h.elim, fun h => h.elim, fun h => h.elim, fun h => h.elim, fun h => h.elim, fun h => h.elim, fun h => h.elim, fun h => h.elim, fun h => h.elim, fun h => h.elim, fun h => h.elim, fun h _ => h.elim⟩
    case step =>
      intro i o ho D a w' hI hn hcl hd
      obtain ⟨v26, v27, v28, v29, v30, v31, v32, v33, v34, v35, v25, v36, v37, v8, v9, va, vn, vc, qa, qn, qc, b8, ha, hB, e0, e1, e2, e3, e4, e5, e6, e7, e8, e9, e10, e11, e12, e13, e15, h9, hS, hN⟩ := hI
      match i, ho with
      | 0, ho =>
        cases Option.some.inj ho
        have ev : a.tmps[0]?.getD undef = .pointer (some ⟨b, 0, none⟩) := by rw [ha]; kernel_rfl
        refine wp_value (w' := w') (v := .pointer (some ⟨b, 0, none⟩)) (by simp [execOp, ev, go_sem]) ?_
        exact ⟨(.pointer (some ⟨b, 0, none⟩)), v27, v28, v29, v30, v31, v32, v33, v34, v35, v25, v36, v37, v8, v9, va, vn, vc, qa, qn, qc, b8, by rw [ha]; kernel_rfl, hB, fun _ => rfl, fun h => e1 (h.resolve_left (by decide)), fun h => e2 (h.resolve_left (by decide)), fun h => e3 (h.resolve_left (by decide)), fun h => e4 (h.resolve_left (by decide)), fun h => e5 (h.resolve_left (by decide)), fun h => e6 (h.resolve_left (by decide)), fun h => e7 (h.resolve_left (by decide)), fun h => e8 (h.resolve_left (by decide)), fun h => e9 (h.resolve_left (by decide)), fun h => e10 (h.resolve_left (by decide)), fun h => e11 (h.resolve_left (by decide)), fun h => e12 (h.resolve_left (by decide)), fun h => e13 (h.resolve_left (by decide)), fun h => e15 (h.resolve_left (by decide)), fun h => h9 (h.resolve_left (by decide)), fun h => hS (h.resolve_left (by decide)), fun h h' => hN (h.resolve_left (by decide)) (fun k => h' (.inr k))⟩
      | 1, ho =>
        cases Option.some.inj ho
        have ev : a.tmps[26]?.getD undef = .pointer (some ⟨b, 0, none⟩) := by rw [ha, e0 (hd ⟨0, .data⟩ (by simp) rfl)]; kernel_rfl
        refine wp_value (w' := w') (v := .pointer (some ⟨b, 0, none⟩)) (by simp [execOp, ev, go_sem]) ?_
        exact ⟨v26, (.pointer (some ⟨b, 0, none⟩)), v28, v29, v30, v31, v32, v33, v34, v35, v25, v36, v37, v8, v9, va, vn, vc, qa, qn, qc, b8, by rw [ha]; kernel_rfl, hB, fun h => e0 (h.resolve_left (by decide)), fun _ => rfl, fun h => e2 (h.resolve_left (by decide)), fun h => e3 (h.resolve_left (by decide)), fun h => e4 (h.resolve_left (by decide)), fun h => e5 (h.resolve_left (by decide)), fun h => e6 (h.resolve_left (by decide)), fun h => e7 (h.resolve_left (by decide)), fun h => e8 (h.resolve_left (by decide)), fun h => e9 (h.resolve_left (by decide)), fun h => e10 (h.resolve_left (by decide)), fun h => e11 (h.resolve_left (by decide)), fun h => e12 (h.resolve_left (by decide)), fun h => e13 (h.resolve_left (by decide)), fun h => e15 (h.resolve_left (by decide)), fun h => h9 (h.resolve_left (by decide)), fun h => hS (h.resolve_left (by decide)), fun h h' => hN (h.resolve_left (by decide)) (fun k => h' (.inr k))⟩
      | 2, ho =>
        cases Option.some.inj ho
        have ev : a.tmps[27]?.getD undef = .pointer (some ⟨b, 0, none⟩) := by rw [ha, e1 (hd ⟨1, .data⟩ (by simp) rfl)]; kernel_rfl
        refine wp_value (w' := w') (v := .pointer (some ⟨b, 0, none⟩)) (by simp [execOp, ev, go_sem]) ?_
        exact ⟨v26, v27, (.pointer (some ⟨b, 0, none⟩)), v29, v30, v31, v32, v33, v34, v35, v25, v36, v37, v8, v9, va, vn, vc, qa, qn, qc, b8, by rw [ha]; kernel_rfl, hB, fun h => e0 (h.resolve_left (by decide)), fun h => e1 (h.resolve_left (by decide)), fun _ => rfl, fun h => e3 (h.resolve_left (by decide)), fun h => e4 (h.resolve_left (by decide)), fun h => e5 (h.resolve_left (by decide)), fun h => e6 (h.resolve_left (by decide)), fun h => e7 (h.resolve_left (by decide)), fun h => e8 (h.resolve_left (by decide)), fun h => e9 (h.resolve_left (by decide)), fun h => e10 (h.resolve_left (by decide)), fun h => e11 (h.resolve_left (by decide)), fun h => e12 (h.resolve_left (by decide)), fun h => e13 (h.resolve_left (by decide)), fun h => e15 (h.resolve_left (by decide)), fun h => h9 (h.resolve_left (by decide)), fun h => hS (h.resolve_left (by decide)), fun h h' => hN (h.resolve_left (by decide)) (fun k => h' (.inr k))⟩
      | 3, ho =>
        cases Option.some.inj ho
        have ev : a.tmps[28]?.getD undef = .pointer (some ⟨b, 0, none⟩) := by rw [ha, e2 (hd ⟨2, .data⟩ (by simp) rfl)]; kernel_rfl
        have hc := (hB.cell (p := ⟨b, 0, none⟩) (lt_of_cell x0)).trans x0
        refine wp_value (w' := w') (v := .pointer (some ⟨tb, 0, none⟩)) (by simp [execOp, ev, go_sem, hc]) ?_
        exact ⟨v26, v27, v28, (.pointer (some ⟨tb, 0, none⟩)), v30, v31, v32, v33, v34, v35, v25, v36, v37, v8, v9, va, vn, vc, qa, qn, qc, b8, by rw [ha]; kernel_rfl, hB, fun h => e0 (h.resolve_left (by decide)), fun h => e1 (h.resolve_left (by decide)), fun h => e2 (h.resolve_left (by decide)), fun _ => rfl, fun h => e4 (h.resolve_left (by decide)), fun h => e5 (h.resolve_left (by decide)), fun h => e6 (h.resolve_left (by decide)), fun h => e7 (h.resolve_left (by decide)), fun h => e8 (h.resolve_left (by decide)), fun h => e9 (h.resolve_left (by decide)), fun h => e10 (h.resolve_left (by decide)), fun h => e11 (h.resolve_left (by decide)), fun h => e12 (h.resolve_left (by decide)), fun h => e13 (h.resolve_left (by decide)), fun h => e15 (h.resolve_left (by decide)), fun h => h9 (h.resolve_left (by decide)), fun h => hS (h.resolve_left (by decide)), fun h h' => hN (h.resolve_left (by decide)) (fun k => h' (.inr k))⟩
      | 4, ho =>
        cases Option.some.inj ho
        have ev : a.tmps[0]?.getD undef = .pointer (some ⟨b, 0, none⟩) := by rw [ha]; kernel_rfl
        refine wp_value (w' := w') (v := .pointer (some ⟨b, 0, none⟩)) (by simp [execOp, ev, go_sem]) ?_
        exact ⟨v26, v27, v28, v29, (.pointer (some ⟨b, 0, none⟩)), v31, v32, v33, v34, v35, v25, v36, v37, v8, v9, va, vn, vc, qa, qn, qc, b8, by rw [ha]; kernel_rfl, hB, fun h => e0 (h.resolve_left (by decide)), fun h => e1 (h.resolve_left (by decide)), fun h => e2 (h.resolve_left (by decide)), fun h => e3 (h.resolve_left (by decide)), fun _ => rfl, fun h => e5 (h.resolve_left (by decide)), fun h => e6 (h.resolve_left (by decide)), fun h => e7 (h.resolve_left (by decide)), fun h => e8 (h.resolve_left (by decide)), fun h => e9 (h.resolve_left (by decide)), fun h => e10 (h.resolve_left (by decide)), fun h => e11 (h.resolve_left (by decide)), fun h => e12 (h.resolve_left (by decide)), fun h => e13 (h.resolve_left (by decide)), fun h => e15 (h.resolve_left (by decide)), fun h => h9 (h.resolve_left (by decide)), fun h => hS (h.resolve_left (by decide)), fun h h' => hN (h.resolve_left (by decide)) (fun k => h' (.inr k))⟩
      | 5, ho =>
        cases Option.some.inj ho
        have ev : a.tmps[30]?.getD undef = .pointer (some ⟨b, 0, none⟩) := by rw [ha, e4 (hd ⟨4, .data⟩ (by simp) rfl)]; kernel_rfl
        refine wp_value (w' := w') (v := .pointer (some ⟨b, 0, none⟩)) (by simp [execOp, ev, go_sem]) ?_
        exact ⟨v26, v27, v28, v29, v30, (.pointer (some ⟨b, 0, none⟩)), v32, v33, v34, v35, v25, v36, v37, v8, v9, va, vn, vc, qa, qn, qc, b8, by rw [ha]; kernel_rfl, hB, fun h => e0 (h.resolve_left (by decide)), fun h => e1 (h.resolve_left (by decide)), fun h => e2 (h.resolve_left (by decide)), fun h => e3 (h.resolve_left (by decide)), fun h => e4 (h.resolve_left (by decide)), fun _ => rfl, fun h => e6 (h.resolve_left (by decide)), fun h => e7 (h.resolve_left (by decide)), fun h => e8 (h.resolve_left (by decide)), fun h => e9 (h.resolve_left (by decide)), fun h => e10 (h.resolve_left (by decide)), fun h => e11 (h.resolve_left (by decide)), fun h => e12 (h.resolve_left (by decide)), fun h => e13 (h.resolve_left (by decide)), fun h => e15 (h.resolve_left (by decide)), fun h => h9 (h.resolve_left (by decide)), fun h => hS (h.resolve_left (by decide)), fun h h' => hN (h.resolve_left (by decide)) (fun k => h' (.inr k))⟩
      | 6, ho =>
        cases Option.some.inj ho
        have ev : a.tmps[31]?.getD undef = .pointer (some ⟨b, 0, none⟩) := by rw [ha, e5 (hd ⟨5, .data⟩ (by simp) rfl)]; kernel_rfl
        refine wp_value (w' := w') (v := .pointer (some ⟨b, 1, none⟩)) (by simp [execOp, ev, go_sem]) ?_
        exact ⟨v26, v27, v28, v29, v30, v31, (.pointer (some ⟨b, 1, none⟩)), v33, v34, v35, v25, v36, v37, v8, v9, va, vn, vc, qa, qn, qc, b8, by rw [ha]; kernel_rfl, hB, fun h => e0 (h.resolve_left (by decide)), fun h => e1 (h.resolve_left (by decide)), fun h => e2 (h.resolve_left (by decide)), fun h => e3 (h.resolve_left (by decide)), fun h => e4 (h.resolve_left (by decide)), fun h => e5 (h.resolve_left (by decide)), fun _ => rfl, fun h => e7 (h.resolve_left (by decide)), fun h => e8 (h.resolve_left (by decide)), fun h => e9 (h.resolve_left (by decide)), fun h => e10 (h.resolve_left (by decide)), fun h => e11 (h.resolve_left (by decide)), fun h => e12 (h.resolve_left (by decide)), fun h => e13 (h.resolve_left (by decide)), fun h => e15 (h.resolve_left (by decide)), fun h => h9 (h.resolve_left (by decide)), fun h => hS (h.resolve_left (by decide)), fun h h' => hN (h.resolve_left (by decide)) (fun k => h' (.inr k))⟩
      | 7, ho =>
        cases Option.some.inj ho
        have ev : a.tmps[32]?.getD undef = .pointer (some ⟨b, 1, none⟩) := by rw [ha, e6 (hd ⟨6, .data⟩ (by simp) rfl)]; kernel_rfl
        have hc := (hB.cell (p := ⟨b, 1, none⟩) (lt_of_cell x1)).trans x1
        refine wp_value (w' := w') (v := .int .i64 base) (by simp [execOp, ev, go_sem, hc]) ?_
        exact ⟨v26, v27, v28, v29, v30, v31, v32, (.int .i64 base), v34, v35, v25, v36, v37, v8, v9, va, vn, vc, qa, qn, qc, b8, by rw [ha]; kernel_rfl, hB, fun h => e0 (h.resolve_left (by decide)), fun h => e1 (h.resolve_left (by decide)), fun h => e2 (h.resolve_left (by decide)), fun h => e3 (h.resolve_left (by decide)), fun h => e4 (h.resolve_left (by decide)), fun h => e5 (h.resolve_left (by decide)), fun h => e6 (h.resolve_left (by decide)), fun _ => rfl, fun h => e8 (h.resolve_left (by decide)), fun h => e9 (h.resolve_left (by decide)), fun h => e10 (h.resolve_left (by decide)), fun h => e11 (h.resolve_left (by decide)), fun h => e12 (h.resolve_left (by decide)), fun h => e13 (h.resolve_left (by decide)), fun h => e15 (h.resolve_left (by decide)), fun h => h9 (h.resolve_left (by decide)), fun h => hS (h.resolve_left (by decide)), fun h h' => hN (h.resolve_left (by decide)) (fun k => h' (.inr k))⟩
      | 8, ho =>
        cases Option.some.inj ho
        have ev : a.tmps[1]?.getD undef = .int .i64 k := by rw [ha]; kernel_rfl
        refine wp_value (w' := w') (v := .int .i64 k) (by simp [execOp, ev, go_sem]) ?_
        exact ⟨v26, v27, v28, v29, v30, v31, v32, v33, (.int .i64 k), v35, v25, v36, v37, v8, v9, va, vn, vc, qa, qn, qc, b8, by rw [ha]; kernel_rfl, hB, fun h => e0 (h.resolve_left (by decide)), fun h => e1 (h.resolve_left (by decide)), fun h => e2 (h.resolve_left (by decide)), fun h => e3 (h.resolve_left (by decide)), fun h => e4 (h.resolve_left (by decide)), fun h => e5 (h.resolve_left (by decide)), fun h => e6 (h.resolve_left (by decide)), fun h => e7 (h.resolve_left (by decide)), fun _ => rfl, fun h => e9 (h.resolve_left (by decide)), fun h => e10 (h.resolve_left (by decide)), fun h => e11 (h.resolve_left (by decide)), fun h => e12 (h.resolve_left (by decide)), fun h => e13 (h.resolve_left (by decide)), fun h => e15 (h.resolve_left (by decide)), fun h => h9 (h.resolve_left (by decide)), fun h => hS (h.resolve_left (by decide)), fun h h' => hN (h.resolve_left (by decide)) (fun k => h' (.inr k))⟩
      | 9, ho =>
        cases Option.some.inj ho
        have ev : a.tmps[29]?.getD undef = .pointer (some ⟨tb, 0, none⟩) := by rw [ha, e3 (hd ⟨3, .data⟩ (by simp) rfl)]; kernel_rfl
        have ev' : a.tmps[33]?.getD undef = .int .i64 base := by rw [ha, e7 (hd ⟨7, .data⟩ (by simp) rfl)]; kernel_rfl
        have ev'' : a.tmps[34]?.getD undef = .int .i64 k := by rw [ha, e8 (hd ⟨8, .data⟩ (by simp) rfl)]; kernel_rfl
        refine wp_enter (f := 41) (args := #[.pointer (some ⟨tb, 0, none⟩), .int .i64 base, .int .i64 k]) (by simp [execOp, ev, ev', ev'', go_sem]) ?_
        refine (at_shapeX (ht.below hB) base k hX.out hE.out).mono ?_
        rintro e w6 ⟨va', vn', vc', qa', qn', qc', rfl, oV, oB, HB⟩
        refine ⟨_, rfl, ?_⟩
        exact ⟨v26, v27, v28, v29, v30, v31, v32, v33, v34, (.tuple #[.agg #[.int .i64 (clsO X), .slice va' vn' vc', .slice qa' qn' qc'], .int .i64 E]), v25, v36, v37, v8, v9, va', vn', vc', qa', qn', qc', b8, by rw [ha]; kernel_rfl, below_size hB hB.size HB, fun h => e0 (h.resolve_left (by decide)), fun h => e1 (h.resolve_left (by decide)), fun h => e2 (h.resolve_left (by decide)), fun h => e3 (h.resolve_left (by decide)), fun h => e4 (h.resolve_left (by decide)), fun h => e5 (h.resolve_left (by decide)), fun h => e6 (h.resolve_left (by decide)), fun h => e7 (h.resolve_left (by decide)), fun h => e8 (h.resolve_left (by decide)), fun _ => rfl, fun h => absurd (h.resolve_left (by decide)) (fun h => hn (hcl 10 _ rfl h ⟨9, .data⟩ (by simp) rfl)), fun h => absurd (h.resolve_left (by decide)) (fun h => (fun h => hn (hcl 10 _ rfl h ⟨9, .data⟩ (by simp) rfl)) (hcl 11 _ rfl h ⟨10, .data⟩ (by simp) rfl)), fun h => e12 (h.resolve_left (by decide)), fun h => e13 (h.resolve_left (by decide)), fun h => e15 (h.resolve_left (by decide)), fun _ => ⟨oV.mono hB.size, oB.mono hB.size⟩, fun h => absurd (h.resolve_left (by decide)) (fun h => (fun h => (fun h => hn (hcl 10 _ rfl h ⟨9, .data⟩ (by simp) rfl)) (hcl 11 _ rfl h ⟨10, .data⟩ (by simp) rfl)) (hcl 14 _ rfl h ⟨11, .data⟩ (by simp) rfl)), fun h h' => ⟨(HB.block _ (lt_of_block' (hN (h.resolve_left (by decide)) (fun k => h' (.inr k))).1)).trans (hN (h.resolve_left (by decide)) (fun k => h' (.inr k))).1, (hN (h.resolve_left (by decide)) (fun k => h' (.inr k))).2⟩⟩
      | 10, ho =>
        cases Option.some.inj ho
        have ev : a.tmps[35]?.getD undef = .tuple #[.agg #[.int .i64 (clsO X), .slice va vn vc, .slice qa qn qc], .int .i64 E] := by rw [ha, e9 (hd ⟨9, .data⟩ (by simp) rfl)]; kernel_rfl
        refine wp_value (w' := w') (v := .tuple #[.agg #[.int .i64 (clsO X), .slice va vn vc, .slice qa qn qc], .int .i64 E]) (by simp [execOp, ev, go_sem]) ?_
        exact ⟨v26, v27, v28, v29, v30, v31, v32, v33, v34, v35, (.tuple #[.agg #[.int .i64 (clsO X), .slice va vn vc, .slice qa qn qc], .int .i64 E]), v36, v37, v8, v9, va, vn, vc, qa, qn, qc, b8, by rw [ha]; kernel_rfl, hB, fun h => e0 (h.resolve_left (by decide)), fun h => e1 (h.resolve_left (by decide)), fun h => e2 (h.resolve_left (by decide)), fun h => e3 (h.resolve_left (by decide)), fun h => e4 (h.resolve_left (by decide)), fun h => e5 (h.resolve_left (by decide)), fun h => e6 (h.resolve_left (by decide)), fun h => e7 (h.resolve_left (by decide)), fun h => e8 (h.resolve_left (by decide)), fun h => e9 (h.resolve_left (by decide)), fun _ => rfl, fun h => e11 (h.resolve_left (by decide)), fun h => e12 (h.resolve_left (by decide)), fun h => e13 (h.resolve_left (by decide)), fun h => e15 (h.resolve_left (by decide)), fun h => h9 (h.resolve_left (by decide)), fun h => hS (h.resolve_left (by decide)), fun h h' => hN (h.resolve_left (by decide)) (fun k => h' (.inr k))⟩
      | 11, ho =>
        cases Option.some.inj ho
        have ev : a.tmps[25]?.getD undef = .tuple #[.agg #[.int .i64 (clsO X), .slice va vn vc, .slice qa qn qc], .int .i64 E] := by rw [ha, e10 (hd ⟨10, .data⟩ (by simp) rfl)]; kernel_rfl
        refine wp_value (w' := w') (v := .agg #[.int .i64 (clsO X), .slice va vn vc, .slice qa qn qc]) (by simp [execOp, ev, go_sem]) ?_
        exact ⟨v26, v27, v28, v29, v30, v31, v32, v33, v34, v35, v25, (.agg #[.int .i64 (clsO X), .slice va vn vc, .slice qa qn qc]), v37, v8, v9, va, vn, vc, qa, qn, qc, b8, by rw [ha]; kernel_rfl, hB, fun h => e0 (h.resolve_left (by decide)), fun h => e1 (h.resolve_left (by decide)), fun h => e2 (h.resolve_left (by decide)), fun h => e3 (h.resolve_left (by decide)), fun h => e4 (h.resolve_left (by decide)), fun h => e5 (h.resolve_left (by decide)), fun h => e6 (h.resolve_left (by decide)), fun h => e7 (h.resolve_left (by decide)), fun h => e8 (h.resolve_left (by decide)), fun h => e9 (h.resolve_left (by decide)), fun h => e10 (h.resolve_left (by decide)), fun _ => rfl, fun h => e12 (h.resolve_left (by decide)), fun h => e13 (h.resolve_left (by decide)), fun h => e15 (h.resolve_left (by decide)), fun h => h9 (h.resolve_left (by decide)), fun h => hS (h.resolve_left (by decide)), fun h h' => hN (h.resolve_left (by decide)) (fun k => h' (.inr k))⟩
      | 12, ho =>
        cases Option.some.inj ho
        have ev : a.tmps[25]?.getD undef = .tuple #[.agg #[.int .i64 (clsO X), .slice va vn vc, .slice qa qn qc], .int .i64 E] := by rw [ha, e10 (hd ⟨10, .data⟩ (by simp) rfl)]; kernel_rfl
        refine wp_value (w' := w') (v := .int .i64 E) (by simp [execOp, ev, go_sem]) ?_
        exact ⟨v26, v27, v28, v29, v30, v31, v32, v33, v34, v35, v25, v36, (.int .i64 E), v8, v9, va, vn, vc, qa, qn, qc, b8, by rw [ha]; kernel_rfl, hB, fun h => e0 (h.resolve_left (by decide)), fun h => e1 (h.resolve_left (by decide)), fun h => e2 (h.resolve_left (by decide)), fun h => e3 (h.resolve_left (by decide)), fun h => e4 (h.resolve_left (by decide)), fun h => e5 (h.resolve_left (by decide)), fun h => e6 (h.resolve_left (by decide)), fun h => e7 (h.resolve_left (by decide)), fun h => e8 (h.resolve_left (by decide)), fun h => e9 (h.resolve_left (by decide)), fun h => e10 (h.resolve_left (by decide)), fun h => e11 (h.resolve_left (by decide)), fun _ => rfl, fun h => e13 (h.resolve_left (by decide)), fun h => e15 (h.resolve_left (by decide)), fun h => h9 (h.resolve_left (by decide)), fun h => hS (h.resolve_left (by decide)), fun h h' => hN (h.resolve_left (by decide)) (fun k => h' (.inr k))⟩
      | 13, ho =>
        cases Option.some.inj ho
        refine wp_value (w' := w'.alloc (objB 0 (.slice none 0 0) (.slice none 0 0))) (v := .pointer (some ⟨w'.heap.size, 0, none⟩)) (by unfold objB; simp [execOp, go_sem]) ?_
        exact ⟨v26, v27, v28, v29, v30, v31, v32, v33, v34, v35, v25, v36, v37, (.pointer (some ⟨w'.heap.size, 0, none⟩)), v9, va, vn, vc, qa, qn, qc, w'.heap.size, by rw [ha]; kernel_rfl, hB.alloc hB.size _, fun h => e0 (h.resolve_left (by decide)), fun h => e1 (h.resolve_left (by decide)), fun h => e2 (h.resolve_left (by decide)), fun h => e3 (h.resolve_left (by decide)), fun h => e4 (h.resolve_left (by decide)), fun h => e5 (h.resolve_left (by decide)), fun h => e6 (h.resolve_left (by decide)), fun h => e7 (h.resolve_left (by decide)), fun h => e8 (h.resolve_left (by decide)), fun h => e9 (h.resolve_left (by decide)), fun h => e10 (h.resolve_left (by decide)), fun h => e11 (h.resolve_left (by decide)), fun h => e12 (h.resolve_left (by decide)), fun _ => rfl, fun h => e15 (h.resolve_left (by decide)), fun h => ⟨(h9 (h.resolve_left (by decide))).1.below box_below, (h9 (h.resolve_left (by decide))).2.below box_below⟩, fun h => absurd (h.resolve_left (by decide)) (fun h => hn (hcl 14 _ rfl h ⟨13, .data⟩ (by simp) rfl)), fun _ _ => ⟨new1 _ _, hB.size⟩⟩
      | 14, ho =>
        cases Option.some.inj ho
        have ev : a.tmps[8]?.getD undef = .pointer (some ⟨b8, 0, none⟩) := by rw [ha, e13 (hd ⟨13, .data⟩ (by simp) rfl)]; kernel_rfl
        have ev' : a.tmps[36]?.getD undef = .agg #[.int .i64 (clsO X), .slice va vn vc, .slice qa qn qc] := by rw [ha, e11 (hd ⟨11, .data⟩ (by simp) rfl)]; kernel_rfl
        obtain ⟨E8, l8⟩ := hN (hd ⟨13, .data⟩ (by simp) rfl) hn
        obtain ⟨o1, o2⟩ := h9 (hcl 10 _ rfl (hcl 11 _ rfl (hd ⟨11, .data⟩ (by simp) rfl) ⟨10, .data⟩ (by simp) rfl) ⟨9, .data⟩ (by simp) rfl)
        obtain ⟨q0, q1, q2, qf⟩ := obj_cells E8
        refine wp_skip (w' := stO w' b8 (clsO X) (.slice va vn vc) (.slice qa qn qc)) (by simp [execOp, ev, ev', go_sem, q0, q1, q2, qf, stO]) ?_
        exact ⟨v26, v27, v28, v29, v30, v31, v32, v33, v34, v35, v25, v36, v37, v8, v9, va, vn, vc, qa, qn, qc, b8, by rw [ha]; kernel_rfl, stO_below hB l8 _ _ _, fun h => e0 (h.resolve_left (by decide)), fun h => e1 (h.resolve_left (by decide)), fun h => e2 (h.resolve_left (by decide)), fun h => e3 (h.resolve_left (by decide)), fun h => e4 (h.resolve_left (by decide)), fun h => e5 (h.resolve_left (by decide)), fun h => e6 (h.resolve_left (by decide)), fun h => e7 (h.resolve_left (by decide)), fun h => e8 (h.resolve_left (by decide)), fun h => e9 (h.resolve_left (by decide)), fun h => e10 (h.resolve_left (by decide)), fun h => e11 (h.resolve_left (by decide)), fun h => e12 (h.resolve_left (by decide)), fun h => e13 (h.resolve_left (by decide)), fun h => e15 (h.resolve_left (by decide)), fun _ => ⟨ownV_of (stO_own o1.1 E8 (by decide) _ _ _) o1.wf, ownB_of (stO_own o2.1 E8 (by decide) _ _ _) o2.byte⟩, fun _ => ⟨stO_blk E8 _ _ _, l8⟩, fun _ h' => absurd (.inl rfl) h'⟩
      | 15, ho =>
        cases Option.some.inj ho
        have ev : a.tmps[37]?.getD undef = .int .i64 E := by rw [ha, e12 (hd ⟨12, .data⟩ (by simp) rfl)]; kernel_rfl
        refine wp_value (w' := w') (v := .int .i64 E) (by simp [execOp, ev, go_sem]) ?_
        exact ⟨v26, v27, v28, v29, v30, v31, v32, v33, v34, v35, v25, v36, v37, v8, (.int .i64 E), va, vn, vc, qa, qn, qc, b8, by rw [ha]; kernel_rfl, hB, fun h => e0 (h.resolve_left (by decide)), fun h => e1 (h.resolve_left (by decide)), fun h => e2 (h.resolve_left (by decide)), fun h => e3 (h.resolve_left (by decide)), fun h => e4 (h.resolve_left (by decide)), fun h => e5 (h.resolve_left (by decide)), fun h => e6 (h.resolve_left (by decide)), fun h => e7 (h.resolve_left (by decide)), fun h => e8 (h.resolve_left (by decide)), fun h => e9 (h.resolve_left (by decide)), fun h => e10 (h.resolve_left (by decide)), fun h => e11 (h.resolve_left (by decide)), fun h => e12 (h.resolve_left (by decide)), fun h => e13 (h.resolve_left (by decide)), fun _ => rfl, fun h => h9 (h.resolve_left (by decide)), fun h => hS (h.resolve_left (by decide)), fun h h' => hN (h.resolve_left (by decide)) (fun k => h' (.inr k))⟩
      | i + 16, ho => simp at ho
    case done =>
      rintro D a w' ⟨v26, v27, v28, v29, v30, v31, v32, v33, v34, v35, v25, v36, v37, v8, v9, va, vn, vc, qa, qn, qc, b8, ha, hB, e0, e1, e2, e3, e4, e5, e6, e7, e8, e9, e10, e11, e12, e13, e15, h9, hS, hN⟩ hall
      obtain rfl := e0 (hall 0 (by decide))
      obtain rfl := e1 (hall 1 (by decide))
      obtain rfl := e2 (hall 2 (by decide))
      obtain rfl := e3 (hall 3 (by decide))
      obtain rfl := e4 (hall 4 (by decide))
      obtain rfl := e5 (hall 5 (by decide))
      obtain rfl := e6 (hall 6 (by decide))
      obtain rfl := e7 (hall 7 (by decide))
      obtain rfl := e8 (hall 8 (by decide))
      obtain rfl := e9 (hall 9 (by decide))
      obtain rfl := e10 (hall 10 (by decide))
      obtain rfl := e11 (hall 11 (by decide))
      obtain rfl := e12 (hall 12 (by decide))
      obtain rfl := e13 (hall 13 (by decide))
      obtain rfl := e15 (hall 15 (by decide))
      obtain ⟨o1, o2⟩ := h9 (hall 9 (by decide))
      obtain ⟨E8, l8⟩ := hS (hall 14 (by decide))
      clear hall h9 hS hN e0 e1 e2 e3 e4 e5 e6 e7 e8 e9 e10 e11 e12 e13 e15
      rw [ha]
      clear ha
      simp only [Act.put, List.setIfInBounds_toArray, List.set_cons_zero, List.set_cons_succ]
      have H4 := (hB.block b4 (lt_of_block G4)).trans G4
      have BE := below_size BB BB.size hB
      have n48 : b8 ≠ b4 := by have := lt_of_block G4; omega
      obtain ⟨z0, z1, z2, zf⟩ := obj_cells H4
      obtain ⟨y0, y1, y2, yf⟩ := obj_cells E8
      clear x0 x1 x2 x3 x4 hblk6 ht hX hE
      cases X with
      | none =>
        have hE0 : (E == 0) = false := by simpa using n0.out rfl
        have hE1 : ¬ E = 0 := n0.out rfl
        have I4 := stO_blk H4 0 (.slice none 0 0) (.slice none 0 0)
        have BF := stO_below BE l4 0 (.slice none 0 0) (.slice none 0 0)
        go_wp2
        clear z0 z1 z2 zf
        obtain ⟨z0, z1, z2, zf⟩ := obj_cells I4
        exact bodyPost_ret (v := .tuple #[.agg #[.int .i64 0, .slice none 0 0, .slice none 0 0], .int .i64 25]) (results_twoP Tryz.results11 rfl (load49 z0 z1 z2) rfl) rfl ⟨_, _, _, _, _, _, by rw [hP.out]; rfl, by rw [hP.out]; exact ownV_nil _ _, by rw [hP.out]; exact ownB_nil' _ _, BF⟩
      | some x =>
        obtain rfl := n1.out x rfl
        have OV2 := o1.mono BB.size
        have OB2 := o2.mono BB.size
        have I4 := stO_blk H4 x.cls (.slice va vn vc) (.slice qa qn qc)
        have BF := stO_below BE l4 x.cls (.slice va vn vc) (.slice qa qn qc)
        have OV3 := ownV_of (stO_own OV2.1 H4 (by decide) x.cls (.slice va vn vc) (.slice qa qn qc)) OV2.wf
        have OB3 := ownB_of (stO_own OB2.1 H4 (by decide) x.cls (.slice va vn vc) (.slice qa qn qc)) OB2.byte
        clear o1 o2 OV2 OB2 E8
        go_wp2
        clear z0 z1 z2 zf
        obtain ⟨z0, z1, z2, zf⟩ := obj_cells I4
        exact bodyPost_ret (v := .tuple #[.agg #[.int .i64 x.cls, .slice va vn vc, .slice qa qn qc], .int .i64 0]) (results_twoP Tryz.results11 rfl (load49 z0 z1 z2) rfl) rfl ⟨_, _, _, _, _, _, by rw [hP.out]; rfl, by rw [hP.out]; exact OV3, by rw [hP.out]; exact OB3, BF⟩
  · have hP : Hid (peekR v t k = some o) := by show peekR v t k = _; unfold peekR; rw [hk]
    have hg := okWO_len (h.good k o hk)
    have hsn : sn ≤ 8796093022208 := by have := o1.isV.size; omega
    have hbn : bn ≤ 140737488355328 := by have := o2.isB.size; omega
    have hO1 : IsO w1 o.cls sa sn sc ba bn bc o.vs o.bs := ⟨by omega, o1.isV, o2.isB⟩
    have E6 := new1 w1 (objB o.cls (.slice sa sn sc) (.slice ba bn bc))
    have B6 : Below w1.heap.size w1 (w1.alloc (objB o.cls (.slice sa sn sc) (.slice ba bn bc))) := box_below
    have G4 := (B6.block b4 (lt_of_block E4)).trans E4
    have hO6 := hO1.below B6
    have BB := below_size B4 B4.size B6
    have n46 : w1.heap.size ≠ b4 := by have := lt_of_block E4; omega
    unfold objB at E6 B6 G4 hO6 BB
    clear E4 hO1 o1 o2 hR hO hk hg
    go_upto_region 5 with fail
    generalize w1.alloc (.cells #[.int .i64 o.cls, .slice sa sn sc, .slice ba bn bc] 35) = w2 at *
    replace G4 : w2.heap[b4]? = some (objB 0 (.slice none 0 0) (.slice none 0 0)) := G4
    replace E6 : w2.heap[w1.heap.size]? = some (objB o.cls (.slice sa sn sc) (.slice ba bn bc)) := E6
    generalize w1.heap.size = b6 at *
    clear x0 x1 x2 x3 x4 hl
    obtain ⟨y0, y1, y2, yf⟩ := obj_cells E6
    go_wp2_with fail
    refine (copy_shape hO6 hsn hbn).mono ?_
    rintro e w3 ⟨ga, gn, gc, qa, qn, qc, rfl, OV, OB, B3⟩
    have H4 := (B3.block b4 (lt_of_block G4)).trans G4
    have BE := below_size BB BB.size B3
    have OV2 := OV.mono BB.size
    have OB2 := OB.mono BB.size
    obtain ⟨z0, z1, z2, zf⟩ := obj_cells H4
    have I4 := stO_blk H4 o.cls (.slice ga gn gc) (.slice qa qn qc)
    have BF := stO_below BE l4 o.cls (.slice ga gn gc) (.slice qa qn qc)
    have OV3 := ownV_of (stO_own OV2.1 H4 (by decide) o.cls (.slice ga gn gc) (.slice qa qn qc)) OV2.wf
    have OB3 := ownB_of (stO_own OB2.1 H4 (by decide) o.cls (.slice ga gn gc) (.slice qa qn qc)) OB2.byte
    clear OV OB OV2 OB2 y0 y1 y2 yf hO6 B3 E6
    go_wp2
    clear z0 z1 z2 zf
    obtain ⟨z0, z1, z2, zf⟩ := obj_cells I4
    exact bodyPost_ret (v := .tuple #[.agg #[.int .i64 o.cls, .slice ga gn gc, .slice qa qn qc], .int .i64 0]) (results_twoP Tryz.results11 rfl (load49 z0 z1 z2) rfl) rfl ⟨_, _, _, _, _, _, by rw [hP.out]; rfl, by rw [hP.out]; exact OV3, by rw [hP.out]; exact OB3, BF⟩
end Go.Proofs.YteomolihandfnaaGreat
