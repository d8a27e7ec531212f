/- What the law ViewAlone asks of the tables and of a view that did nothing. -/
import Derived.Test.YteomolihandfnaaVgq
import Derived.Test.YteomolihandfnaaVop
import Derived.Test.YteomolihandfnaaRat
namespace Go.Proofs.Yteomolihandfnaa
open Go.RowKit
set_option maxRecDepth 100000
section
variable {W0 W1 w w' : World} {Y : Nat → Prop} {tb ub b b2 : Nat} {t : Tab} {u : RTab} {v v2 : Vw}
theorem hb_view (h : Hb W0 tb ub t u w) : ∃ U, RTb w U ub u ∧ Calls Try.prog 16 #[.pointer (some ⟨tb, 0, none⟩)] w fun e w' => ∃ b, e = .returned (.pointer (some ⟨b, 0, none⟩)) ∧ Hv W0 w U tb t b (vw0 t.last) w' := by
  obtain ⟨S, R, U, h1, h2, h3, h4, h5⟩ := h
  obtain ⟨mv, hb, _⟩ := h1.blk
  refine ⟨U, h2, (vnew_any hb).mono ?_⟩
  rintro e w' ⟨rfl, rfl⟩
  have s := h5.size
  have B : Below w.heap.size w (w.alloc (viewB tb t.last none none 0)) := box_below
  refine ⟨w.heap.size, rfl, S, R, _, _, h1.below B, Vb.new w tb t.last, h3, fun g hg => ?_, fun g hg => ⟨Nat.lt_of_lt_of_le (h2.lt g hg) B.size, B.block g (h2.lt g hg)⟩, below_size h5 h5.size B⟩
  rw [hg]
  exact ⟨by omega, fun q => by have := h1.sets.lt (.inl q); omega, fun q => by have := h1.sets.lt (.inr q); omega, fun q => by have := h2.lt _ q; omega⟩
theorem hd_at2 (h : Hd W0 b t w) (hr : Rel2 t u) (k : Int) : Calls Try.prog 22 #[.pointer (some ⟨b, 0, none⟩), .int .i64 t.last, .int .i64 k] w (PkQ w (rAt u.recs k)) := by
  obtain ⟨S, R, h1, _⟩ := h
  rw [← hr.at_ h1 k]
  refine (at_shape h1 t.last k).mono ?_
  rintro e w' ⟨va, vn, vc, qa, qn, qc, rfl, o1, o2, B⟩
  have he : atE t t.last k = errR (toOb (atO t t.last k)) := by
    cases hx : atO t t.last k with
    | some x => rw [atE_some hx]; rfl
    | none =>
      have h0 : t.first ≤ t.last ∧ t.last ≤ t.last := ⟨h1.first0.2.1, Int.le_refl _⟩
      unfold atO at hx
      rw [if_pos h0] at hx
      unfold atE
      rw [if_pos h0, hx]
      rfl
  have hc : clsO (atO t t.last k) = clsR (toOb (atO t t.last k)) := by cases atO t t.last k <;> rfl
  have hv : vsO (atO t t.last k) = vsR (toOb (atO t t.last k)) := by cases atO t t.last k <;> rfl
  have hb : bsO (atO t t.last k) = bsR (toOb (atO t t.last k)) := by cases atO t t.last k <;> rfl
  rw [hv] at o1
  rw [hb] at o2
  exact ⟨va, vn, vc, qa, qn, qc, by rw [he, hc], o1, o2, B⟩
theorem hd_cls2 (h : Hd W0 b t w) (hr : Rel2 t u) (k : Int) : -9223372036854775808 ≤ clsR (rAt u.recs k) ∧ clsR (rAt u.recs k) ≤ 9223372036854775807 := by
  obtain ⟨S, R, h1, _⟩ := h
  rw [← hr.at_ h1 k]
  cases hx : atO t t.last k with
  | none => simp [toOb, clsR]
  | some x =>
    unfold atO at hx
    split at hx
    · obtain ⟨m1, _, m3⟩ := atC_mem hx
      have h2 := (h1.good.ver k x m1).2.2
      simp only [okCh, m3, okO, okC, Bool.false_eq_true, if_false, Bool.and_eq_true, decide_eq_true_eq] at h2
      show -9223372036854775808 ≤ x.cls ∧ x.cls ≤ 9223372036854775807
      omega
    · cases hx
def Nil0 (w : World) (e : Ending) (w' : World) : Prop := ∃ a c, e = .returned (.slice a 0 c) ∧ Below w.heap.size w w'
theorem OopP.nil0 {ks : List Int} (hk : ks = []) {e : Ending} (h : OopP w ks e w') : Nil0 w e w' := by
  obtain ⟨a, n, c, rfl, rfl, _, B⟩ := h
  subst hk
  exact ⟨a, c, rfl, B⟩
theorem writes_any {V Q : Nat → Prop} (h : Vb w V Q b tb v) (hy : KyV v) : Calls Try.prog 27 #[.pointer (some ⟨b, 0, none⟩)] w (OopP w (oopsL v 1 4096)) := by
  go_enter Try.func27, Try.ntmps27
  go_wp2_with fail
  refine (oops_any h hy 1 4096).mono ?_
  rintro e w' ⟨a, n, cap, rfl, rfl, h2, h3⟩
  go_wp2
  go_ret
  exact ⟨a, _, cap, rfl, rfl, h2, h3⟩
theorem reads0 {c : Int} (h : Hw W0 W1 Y tb t b (vw0 c) b2 v2 w) : Calls Try.prog 26 #[.pointer (some ⟨b, 0, none⟩)] w (Nil0 w) := by
  obtain ⟨S, R, V, Q, V2, Q2, h1, h2, _⟩ := h
  exact (reads_any h2 (KyV.new c)).mono fun e w' q => q.nil0 (by simp [rdK, vw0])
theorem writes0 {c : Int} (h : Hw W0 W1 Y tb t b (vw0 c) b2 v2 w) : Calls Try.prog 27 #[.pointer (some ⟨b, 0, none⟩)] w (Nil0 w) := by
  obtain ⟨S, R, V, Q, V2, Q2, h1, h2, _⟩ := h
  exact (writes_any h2 (KyV.new c)).mono fun e w' q => q.nil0 (by simp [oopsL, ownK, vw0])
theorem news0 {c : Int} (h : Hw W0 W1 Y tb t b (vw0 c) b2 v2 w) : Calls Try.prog 28 #[.pointer (some ⟨b, 0, none⟩)] w (Nil0 w) := by
  obtain ⟨S, R, V, Q, V2, Q2, h1, h2, _⟩ := h
  exact (news_any h2 (KyV.new c)).mono fun e w' q => q.nil0 (by simp [oopsL, ownK, vw0])
theorem Hw.rtb {U : Nat → Prop} {W2 : World} (h : Hw W0 W2 U tb t b v b2 v2 w) (hU : RTb W2 U ub u) (hs : W2.heap.size ≤ w.heap.size) : RTb w U ub u := hU.same hs h.keptY
end
end Go.Proofs.Yteomolihandfnaa
