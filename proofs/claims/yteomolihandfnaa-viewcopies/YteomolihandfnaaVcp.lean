/- A copy of a view. -/
import Derived.Test.YteomolihandfnaaVop
import Derived.Shelf.SlMaps.Clone
namespace Go.Proofs.Yteomolihandfnaa
open Go.RowKit
set_option maxRecDepth 100000
set_option maxHeartbeats 1000000 in
theorem cloneR_map (b : Nat) (es : Array MapEntry) (clock : Nat) (w : World) (hb : w.heap[b]? = some (.map es clock)) :
    Calls Try.prog 56 #[.map (some b)] w fun e w' => e = .returned (.map (some w.heap.size)) ∧ w' = w.alloc (.map es clock) := by
  have hq := fun w => run_eql_map_nil_sl (P := Try.prog) w 80 _ _ (some b) Try.underlying80
  go_enter Try.func56, Try.ntmps56
  go_wp2
  rw [run_callFunc_extern (show Try.prog.funcs[72]? = _ from rfl) (by kernel_rfl) (by kernel_rfl) (by kernel_rfl) (e := Extern.MapsClone.clone) (by kernel_rfl), run_maps_clone_sl w 80 hb]
  simp only [Result.andThen]
  rw [Oper.upon_value]
  go_wp2
  rw [run_typeAssert_map_sl _ 80 20 _ _ _ Try.underlying80]
  simp only [Result.andThen]
  rw [Oper.upon_value]
  go_wp2
  go_ret
  exact ⟨rfl, rfl⟩
set_option maxHeartbeats 1000000 in
theorem cloneO_map (b : Nat) (es : Array MapEntry) (clock : Nat) (w : World) (hb : w.heap[b]? = some (.map es clock)) :
    Calls Try.prog 57 #[.map (some b)] w fun e w' => e = .returned (.map (some w.heap.size)) ∧ w' = w.alloc (.map es clock) := by
  have hq := fun w => run_eql_map_nil_sl (P := Try.prog) w 81 _ _ (some b) Try.underlying81
  go_enter Try.func57, Try.ntmps57
  go_wp2
  rw [run_callFunc_extern (show Try.prog.funcs[72]? = _ from rfl) (by kernel_rfl) (by kernel_rfl) (by kernel_rfl) (e := Extern.MapsClone.clone) (by kernel_rfl), run_maps_clone_sl w 81 hb]
  simp only [Result.andThen]
  rw [Oper.upon_value]
  go_wp2
  rw [run_typeAssert_map_sl _ 81 20 _ _ _ Try.underlying81]
  simp only [Result.andThen]
  rw [Oper.upon_value]
  go_wp2
  go_ret
  exact ⟨rfl, rfl⟩
/-- The new map, where there is one. -/
def CloP (w : World) (m : Option Nat) (e : Ending) (w' : World) : Prop := ∃ m', e = .returned (.map m') ∧ Below w.heap.size w w' ∧ match m with
  | none => m' = none
  | some b => m' = some w.heap.size ∧ w'.heap.size = w.heap.size + 1 ∧ w'.heap[w.heap.size]? = w.heap[b]?
theorem cloneR_any (w : World) (m : Option Nat) (h : ∀ b, m = some b → ∃ es c, w.heap[b]? = some (.map es c)) : Calls Try.prog 56 #[.map m] w (CloP w m) := by
  cases m with
  | none =>
    have hq := fun w => run_eql_map_nil_sl (P := Try.prog) w 80 _ _ none Try.underlying80
    go_enter Try.func56, Try.ntmps56
    go_wp2
    go_ret
    exact ⟨none, rfl, Below.refl _ _, rfl⟩
  | some b =>
    obtain ⟨es, c, hb⟩ := h b rfl
    refine (cloneR_map b es c w hb).mono ?_
    rintro e w' ⟨rfl, rfl⟩
    exact ⟨_, rfl, box_below, rfl, by simp, (new1 _ _).trans hb.symm⟩
theorem cloneO_any (w : World) (m : Option Nat) (h : ∀ b, m = some b → ∃ es c, w.heap[b]? = some (.map es c)) : Calls Try.prog 57 #[.map m] w (CloP w m) := by
  cases m with
  | none =>
    have hq := fun w => run_eql_map_nil_sl (P := Try.prog) w 81 _ _ none Try.underlying81
    go_enter Try.func57, Try.ntmps57
    go_wp2
    go_ret
    exact ⟨none, rfl, Below.refl _ _, rfl⟩
  | some b =>
    obtain ⟨es, c, hb⟩ := h b rfl
    refine (cloneO_map b es c w hb).mono ?_
    rintro e w' ⟨rfl, rfl⟩
    exact ⟨_, rfl, box_below, rfl, by simp, (new1 _ _).trans hb.symm⟩
set_option maxHeartbeats 2000000 in
theorem vcopy_any {w : World} {V Q : Nat → Prop} {b tb : Nat} {v : Vw} (h : Vb w V Q b tb v) : Calls Try.prog 32 #[.pointer (some ⟨b, 0, none⟩)] w fun e w' => ∃ b2 V2, e = .returned (.pointer (some ⟨b2, 0, none⟩)) ∧ Below w.heap.size w w' ∧ Vb w' V2 Q b2 tb v ∧ ∀ g, V2 g → w.heap.size ≤ g := by
  obtain ⟨rm, om, hblk, hRM, hOM, hne⟩ := h.blk
  obtain ⟨x0, x1, x2, x3, x4⟩ := view_cells hblk
  have lb : Hid (b < w.heap.size) := lt_of_block hblk
  have inR := fun mb e => RdM.in_ hRM (mb := mb) e
  have inO := fun mb e => OwM.in_ hOM (mb := mb) e
  have B1 : Below w.heap.size w (w.alloc (.cells #[.pointer (some ⟨tb, 0, none⟩), .int .i64 v.base, .map rm, .map om, .int .i64 v.made] 83)) := box_below
  have E1 : (w.alloc (.cells #[.pointer (some ⟨tb, 0, none⟩), .int .i64 v.base, .map rm, .map om, .int .i64 v.made] 83)).heap[w.heap.size]? = some (viewB tb v.base rm om v.made) := new1 _ _
  have y2 := (B1.cell (p := ⟨b, 2, none⟩) lb.out).trans x2
  go_enter Try.func32, Try.ntmps32
  go_wp2_with fail
  clear y2 x0 x1 x2 x3 x4
  generalize w.alloc (.cells #[.pointer (some ⟨tb, 0, none⟩), .int .i64 v.base, .map rm, .map om, .int .i64 v.made] 83) = w1 at *
  obtain ⟨b2, hb2⟩ : ∃ q, q = w.heap.size := ⟨_, rfl⟩
  rw [← hb2] at E1 ⊢
  replace hb2 : Hid (b2 = w.heap.size) := hb2
  refine (cloneR_any w1 rm (fun mb e => by obtain ⟨z1, es, c, z2⟩ := inR mb e; exact ⟨es, c, (B1.block mb (h.lt mb (.inl z1))).trans z2⟩)).mono ?_
  rintro e w2 ⟨rm', rfl, B2, hrm⟩
  have L1 : Hid (w.heap.size ≤ w1.heap.size) := B1.size
  have E2 := (B2.block b2 (lt_of_block E1)).trans E1
  have B12 : Below w.heap.size w w2 := below_size B1 B1.size B2
  have f2 := view_frozen E2
  obtain ⟨x0, x1, x2, x3, x4⟩ := view_cells E2
  have E3 := view_set2 E2 rm'
  have B3 : Below w.heap.size w (w2.setCell ⟨b2, 2, none⟩ (.map rm')) := B12.setCell (p := ⟨b2, 2, none⟩) (Nat.le_of_eq hb2.out.symm) _
  have y3 := (B3.cell (p := ⟨b, 3, none⟩) lb.out).trans (view_cells hblk).2.2.2.1
  have o3 : ∀ q, q ≠ b2 → (w2.setCell ⟨b2, 2, none⟩ (.map rm')).heap[q]? = w2.heap[q]? := fun q hq => heap_setCell_other w2 ⟨b2, 2, none⟩ q _ hq
  have s3 : Hid ((w2.setCell ⟨b2, 2, none⟩ (.map rm')).heap.size = w2.heap.size) := by show _ = _; simp
  go_wp2_with fail
  clear x0 x1 x2 x3 x4 f2 y3
  generalize w2.setCell ⟨b2, 2, none⟩ (.map rm') = w3 at *
  refine (cloneO_any w3 om (fun mb e => by obtain ⟨z1, es, c, z2⟩ := inO mb e; exact ⟨es, c, (B3.block mb (h.lt mb (.inl z1))).trans z2⟩)).mono ?_
  rintro e w4 ⟨om', rfl, B4, hom⟩
  have E4 := (B4.block b2 (lt_of_block E3)).trans E3
  have B14 : Below w.heap.size w w4 := below_size B3 B3.size B4
  have f4 := view_frozen E4
  obtain ⟨x0, x1, x2, x3, x4⟩ := view_cells E4
  have E5 := view_set3 E4 om'
  have B5 : Below w.heap.size w (w4.setCell ⟨b2, 3, none⟩ (.map om')) := B14.setCell (p := ⟨b2, 3, none⟩) (Nat.le_of_eq hb2.out.symm) _
  have o5 : ∀ q, q ≠ b2 → (w4.setCell ⟨b2, 3, none⟩ (.map om')).heap[q]? = w4.heap[q]? := fun q hq => heap_setCell_other w4 ⟨b2, 3, none⟩ q _ hq
  have s5 : Hid ((w4.setCell ⟨b2, 3, none⟩ (.map om')).heap.size = w4.heap.size) := by show _ = _; simp
  go_wp2
  generalize w4.setCell ⟨b2, 3, none⟩ (.map om') = w5 at *
  clear x0 x1 x2 x3 x4 f4
  go_ret
  have l1 := lt_of_block E1
  have l5 := lt_of_block E5
  have k2 := B2.size
  have k4 := B4.size
  have k3 := s3.out
  have k5 := s5.out
  have kb := hb2.out
  have kL := L1.out
  have mr : ∀ mb, rm' = some mb → mb = w1.heap.size ∧ w5.heap[mb]? = w2.heap[mb]? ∧ mb < w2.heap.size := fun mb e => by
    cases rm with
    | none => rw [show rm' = none from hrm] at e; cases e
    | some m0 =>
      obtain ⟨z1, z2, z3⟩ := hrm
      rw [z1] at e
      cases e
      exact ⟨rfl, (o5 _ (by omega)).trans ((B4.block _ (by omega)).trans (o3 _ (by omega))), by omega⟩
  have mo : ∀ mb, om' = some mb → mb = w3.heap.size ∧ w5.heap[mb]? = w4.heap[mb]? ∧ mb < w4.heap.size := fun mb e => by
    cases om with
    | none => rw [show om' = none from hom] at e; cases e
    | some m0 =>
      obtain ⟨z1, z2, z3⟩ := hom
      rw [z1] at e
      cases e
      exact ⟨rfl, o5 _ (by omega), by omega⟩
  have new : ∀ g, (g = b2 ∨ rm' = some g ∨ om' = some g) → w.heap.size ≤ g ∧ g < w5.heap.size := fun g hg => by
    rcases hg with rfl | e | e
    · omega
    · obtain ⟨z1, _, z2⟩ := mr g e; omega
    · obtain ⟨z1, _, z2⟩ := mo g e; omega
  refine ⟨b2, fun g => g = b2 ∨ rm' = some g ∨ om' = some g, rfl, B5, ⟨⟨rm', om', E5, ?_, ?_, fun mb e1 e2 => ?_⟩, .inl rfl, fun g hg => ?_, fun g hg hn => ?_, fun g cur e hg hh => ?_, h.made0, h.good⟩, fun g hg => (new g hg).1⟩
  · cases rm with
    | none =>
      have e : rm' = none := hrm
      subst e
      exact hRM
    | some m0 =>
      obtain ⟨z1, z2, z3⟩ := hrm
      subst z1
      obtain ⟨F, q1, q2, q3⟩ := hRM
      refine ⟨F, ?_, .inr (.inl rfl), q3⟩
      obtain ⟨L, c, hb, q⟩ := q1
      exact ⟨L, c, (mr _ rfl).2.1.trans (z3.trans ((B1.block m0 (lt_of_block' hb)).trans hb)), q⟩
  · cases om with
    | none =>
      have e : om' = none := hom
      subst e
      exact hOM
    | some m0 =>
      obtain ⟨z1, z2, z3⟩ := hom
      subst z1
      obtain ⟨F, q1, q2, q3⟩ := hOM
      refine ⟨F, ?_, .inr (.inr rfl), q3.same (fun _ h => h) (fun g hg => B5.block g (h.lt g (.inr hg)))⟩
      obtain ⟨L, c, hb, q⟩ := q1
      exact ⟨L, c, (mo _ rfl).2.1.trans (z3.trans ((B3.block m0 (lt_of_block' hb)).trans hb)), q⟩
  · obtain ⟨z1, _, z2⟩ := mr mb e1
    obtain ⟨z3, _, z4⟩ := mo mb e2
    omega
  · rcases hg with hg | hg
    · exact (new g hg).2
    · have := h.lt g (.inr hg)
      have := B5.size
      omega
  · have := (new g hn).1
    have := h.lt g (.inr hg)
    omega
  · rcases hg with rfl | e' | e'
    · rw [E5] at hh
      unfold viewB at hh
      cases hh
      rfl
    · exfalso
      cases rm with
      | none => rw [show rm' = none from hrm] at e'; cases e'
      | some m0 =>
        obtain ⟨z1, z2, z3⟩ := hrm
        rw [z1] at e'
        cases e'
        obtain ⟨q1, es, c, q2⟩ := inR m0 rfl
        rw [(mr _ z1).2.1, z3, B1.block m0 (lt_of_block' q2), q2] at hh
        cases hh
    · exfalso
      cases om with
      | none => rw [show om' = none from hom] at e'; cases e'
      | some m0 =>
        obtain ⟨z1, z2, z3⟩ := hom
        rw [z1] at e'
        cases e'
        obtain ⟨q1, es, c, q2⟩ := inO m0 rfl
        rw [(mo _ z1).2.1, z3, B3.block m0 (lt_of_block' q2), q2] at hh
        cases hh
/-- A copy beside the view. -/
theorem hv_copy {W0 W1 w : World} {Y : Nat → Prop} {tb b : Nat} {t : Tab} {v : Vw} (h : Hv W0 W1 Y tb t b v w) : Calls Try.prog 32 #[.pointer (some ⟨b, 0, none⟩)] w fun e w' => ∃ b2, e = .returned (.pointer (some ⟨b2, 0, none⟩)) ∧ Hw W0 W1 Y tb t b v b2 v w' ∧ KpV w w' := by
  obtain ⟨S, R, V, Q, h1, h2, h3, h4, h5, h6⟩ := h
  refine (vcopy_any h2).mono ?_
  rintro e w' ⟨b2, V2, rfl, B, k1, k2⟩
  have s := h6.size
  refine ⟨b2, rfl, ⟨S, R, V, Q, V2, Q, h1.below B, h2.below B, k1, h3, fun g hg => ⟨(h4 g hg).1, (h4 g hg).2.1, (h4 g hg).2.2.1, (h4 g hg).2.2.2, fun q => ?_, fun q => h2.dis g q hg⟩, fun g hg => ?_, fun g hg => ⟨Nat.lt_of_lt_of_le (h5 g hg).1 B.size, (B.block g (h5 g hg).1).trans (h5 g hg).2⟩, below_size h6 h6.size B⟩, KpV.below B⟩
  · have := k2 g q
    have := h2.lt g (.inl hg)
    omega
  · have k := k2 g hg
    exact ⟨by omega, fun q => by have := h1.sets.lt (.inl q); omega, fun q => by have := h1.sets.lt (.inr q); omega, fun q => by have := (h5 _ q).1; omega, fun q => by have := h2.lt _ (.inl q); omega, fun q => by have := h2.lt _ (.inr q); omega⟩
end Go.Proofs.Yteomolihandfnaa
