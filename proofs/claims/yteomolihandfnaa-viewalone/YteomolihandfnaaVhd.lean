/- A table, and a view of it, since a world. -/
import Derived.Test.YteomolihandfnaaVpt
namespace Go.Proofs.Yteomolihandfnaa
open Go.RowKit
set_option maxRecDepth 100000
/-- A table and a view of it, made since W0; Y: blocks that stay as in W1. -/
def Hv (W0 W1 : World) (Y : Nat → Prop) (tb : Nat) (t : Tab) (b : Nat) (v : Vw) (w : World) : Prop := ∃ S R V Q, Tb w S R tb t ∧ Vb w V Q b tb v ∧ (∀ g, S g → W0.heap.size ≤ g) ∧ (∀ g, V g → W0.heap.size ≤ g ∧ ¬ S g ∧ ¬ R g ∧ ¬ Y g) ∧ (∀ g, Y g → g < w.heap.size ∧ w.heap[g]? = W1.heap[g]?) ∧ Below W0.heap.size W0 w
section
variable {W0 W1 w w' : World} {Y : Nat → Prop} {tb b : Nat} {t : Tab} {v : Vw}
theorem Hv.belowW (h : Hv W0 W1 Y tb t b v w) : Below W0.heap.size W0 w := by
  obtain ⟨_, _, _, _, _, _, _, _, _, h6⟩ := h
  exact h6
theorem Hv.hd (h : Hv W0 W1 Y tb t b v w) : Hd W0 tb t w := by
  obtain ⟨S, R, V, Q, h1, h2, h3, h4, h5, h6⟩ := h
  exact ⟨S, R, h1, h3, h6⟩
theorem Hv.below (h : Hv W0 W1 Y tb t b v w) (hb : Below w.heap.size w w') : Hv W0 W1 Y tb t b v w' := by
  obtain ⟨S, R, V, Q, h1, h2, h3, h4, h5, h6⟩ := h
  exact ⟨S, R, V, Q, h1.below hb, h2.below hb, h3, h4, fun g hg => ⟨Nat.lt_of_lt_of_le (h5 g hg).1 hb.size, (hb.block g (h5 g hg).1).trans (h5 g hg).2⟩, below_size h6 h6.size hb⟩
theorem Hv.lowb (h : Hv W0 W1 Y tb t b v w) : W0.heap.size ≤ b := by
  obtain ⟨S, R, V, Q, h1, h2, h3, h4, h5, h6⟩ := h
  exact (h4 b h2.own).1
theorem Hv.keptY (h : Hv W0 W1 Y tb t b v w) : ∀ g, Y g → w.heap[g]? = W1.heap[g]? := by
  obtain ⟨S, R, V, Q, h1, h2, h3, h4, h5, h6⟩ := h
  exact fun g hg => (h5 g hg).2
theorem Hv.guard (h : Hv W0 W1 Y tb t b v w) (o : Obj) : Hv W0 (w.alloc o) (fun g => Y g ∨ g = w.heap.size) tb t b v (w.alloc o) := by
  have B : Below w.heap.size w (w.alloc o) := box_below
  obtain ⟨S, R, V, Q, h1, h2, h3, h4, h5, h6⟩ := h
  refine ⟨S, R, V, Q, h1.below B, h2.below B, h3, fun g hg => ⟨(h4 g hg).1, (h4 g hg).2.1, (h4 g hg).2.2.1, fun q => q.elim (h4 g hg).2.2.2 (fun e => by have := h2.lt g (.inl hg); omega)⟩, fun g hg => ⟨?_, rfl⟩, below_size h6 h6.size B⟩
  rcases hg with hg | hg
  · exact Nat.lt_of_lt_of_le (h5 g hg).1 B.size
  · rw [hg]; simp
theorem hv_step {S R V Q : Nat → Prop} {v' : Vw} (h1 : Tb w S R tb t) (h3 : ∀ g, S g → W0.heap.size ≤ g) (h4 : ∀ g, V g → W0.heap.size ≤ g ∧ ¬ S g ∧ ¬ R g ∧ ¬ Y g) (h5 : ∀ g, Y g → g < w.heap.size ∧ w.heap[g]? = W1.heap[g]?) (h6 : Below W0.heap.size W0 w) (h : VwP w V Q b tb v' w') : Hv W0 W1 Y tb t b v' w' := by
  obtain ⟨V', Q', k1, k2, k3, k4⟩ := h
  refine ⟨S, R, V', Q', h1.same k4.size (fun g hg => k4.block g (h1.sets.lt hg) (fun q => hg.elim (h4 g q).2.1 (h4 g q).2.2.1)), k1, h3, fun g hg => ?_, fun g hg => ⟨Nat.lt_of_lt_of_le (h5 g hg).1 k4.size, (k4.block g (h5 g hg).1 (fun q => (h4 g q).2.2.2 hg)).trans (h5 g hg).2⟩, k4.below h6 h6.size (fun g hg => (h4 g hg).1)⟩
  rcases k2.new g hg with z | ⟨z, _⟩
  · exact h4 g z
  · have := h6.size
    exact ⟨by omega, fun q => by have := h1.sets.lt (.inl q); omega, fun q => by have := h1.sets.lt (.inr q); omega, fun q => by have := (h5 g q).1; omega⟩
theorem hv_put (h : Hv W0 W1 Y tb t b v w) (k : Int) {c : Int} {sa ba : Option Addr} {sn sc bn bc : Nat} {vs : List (Int × Int)} {bs : List Int} (hO : IsO W0 c sa sn sc ba bn bc vs bs) :
    Calls Try.prog 18 #[.pointer (some ⟨b, 0, none⟩), .int .i64 k, .agg #[.int .i64 c, .slice sa sn sc, .slice ba bn bc]] w fun e w' => e = .returned (.int .i64 (putE v t k ⟨c, vs, bs⟩)) ∧ Hv W0 W1 Y tb t b (putV v t k ⟨c, vs, bs⟩) w' := by
  obtain ⟨S, R, V, Q, h1, h2, h3, h4, h5, h6⟩ := h
  refine (put_any h2 h1 k hO h6 (h4 b h2.own).1).mono ?_
  rintro e w' ⟨rfl, hP⟩
  exact ⟨rfl, hv_step h1 h3 h4 h5 h6 hP⟩
theorem hv_make (h : Hv W0 W1 Y tb t b v w) {c : Int} {sa ba : Option Addr} {sn sc bn bc : Nat} {vs : List (Int × Int)} {bs : List Int} (hO : IsO W0 c sa sn sc ba bn bc vs bs) :
    Calls Try.prog 19 #[.pointer (some ⟨b, 0, none⟩), .agg #[.int .i64 c, .slice sa sn sc, .slice ba bn bc]] w fun e w' => e = .returned (.tuple #[.int .i64 (makeN v ⟨c, vs, bs⟩), .int .i64 (makeE v ⟨c, vs, bs⟩)]) ∧ Hv W0 W1 Y tb t b (makeV v ⟨c, vs, bs⟩) w' := by
  obtain ⟨S, R, V, Q, h1, h2, h3, h4, h5, h6⟩ := h
  refine (make_any h2 hO h6 (h4 b h2.own).1).mono ?_
  rintro e w' ⟨rfl, hP⟩
  exact ⟨rfl, hv_step h1 h3 h4 h5 h6 hP⟩
theorem hv_read (h : Hv W0 W1 Y tb t b v w) (k : Int) :
    Calls Try.prog 29 #[.pointer (some ⟨b, 0, none⟩), .int .i64 k] w fun e w' => e = .returned (.tuple #[]) ∧ Hv W0 W1 Y tb t b (readV v k) w' := by
  obtain ⟨S, R, V, Q, h1, h2, h3, h4, h5, h6⟩ := h
  refine (read_any h2 k).mono ?_
  rintro e w' ⟨rfl, hP⟩
  exact ⟨rfl, hv_step h1 h3 h4 h5 h6 hP⟩
theorem hv_peek (h : Hv W0 W1 Y tb t b v w) (k : Int) :
    Calls Try.prog 17 #[.pointer (some ⟨b, 0, none⟩), .int .i64 k] w fun e w' => PkQ w (peekR v t k) e w' := by
  obtain ⟨S, R, V, Q, h1, h2, h3, h4, h5, h6⟩ := h
  exact peek_any h2 h1 k
theorem hv_get (h : Hv W0 W1 Y tb t b v w) (k : Int) :
    Calls Try.prog 20 #[.pointer (some ⟨b, 0, none⟩), .int .i64 k] w fun e w' => ∃ sa sn sc ba bn bc, e = .returned (.tuple #[.agg #[.int .i64 (clsR (peekR v t k)), .slice sa sn sc, .slice ba bn bc], .int .i64 (errR (peekR v t k))]) ∧ OwnV w' w.heap.size (.slice sa sn sc) (vsR (peekR v t k)) ∧ OwnB w' w.heap.size (.slice ba bn bc) (bsR (peekR v t k)) ∧ Hv W0 W1 Y tb t b (readV v k) w' := by
  obtain ⟨S, R, V, Q, h1, h2, h3, h4, h5, h6⟩ := h
  refine (get_any h2 h1 (fun g hg q => hg.elim (h4 g q).2.1 (h4 g q).2.2.1) k).mono ?_
  rintro e w' ⟨sa, sn, sc, ba, bn, bc, rfl, o1, o2, hP⟩
  exact ⟨sa, sn, sc, ba, bn, bc, rfl, o1, o2, hv_step h1 h3 h4 h5 h6 hP⟩
theorem hv_base (h : Hv W0 W1 Y tb t b v w) : Calls Try.prog 30 #[.pointer (some ⟨b, 0, none⟩)] w fun e w' => e = .returned (.int .i64 v.base) ∧ w = w' := by
  obtain ⟨S, R, V, Q, h1, h2, h3, h4, h5, h6⟩ := h
  obtain ⟨rm, om, hb, _, _, _⟩ := h2.blk
  exact vbase_any hb
/-- A new view of a table. -/
theorem hd_view (h : Hd W0 tb t w) : Calls Try.prog 16 #[.pointer (some ⟨tb, 0, none⟩)] w fun e w' => ∃ b, e = .returned (.pointer (some ⟨b, 0, none⟩)) ∧ Hv W0 w (fun _ => False) tb t b (vw0 t.last) w' := by
  obtain ⟨S, R, h1, h2, h3⟩ := h
  obtain ⟨mv, hb, _⟩ := h1.blk
  refine (vnew_any hb).mono ?_
  rintro e w' ⟨rfl, rfl⟩
  refine ⟨w.heap.size, rfl, S, R, _, _, h1.below box_below, Vb.new w tb t.last, h2, fun g hg => ?_, fun g hg => hg.elim, below_size h3 h3.size box_below⟩
  have := h3.size
  rw [hg]
  exact ⟨by omega, fun q => by have := h1.sets.lt (.inl q); omega, fun q => by have := h1.sets.lt (.inr q); omega, fun q => q⟩
/-- A second view of the table beside one that stays. -/
theorem hv_view {Y : Nat → Prop} (h : Hv W0 W1 Y tb t b v w) : Calls Try.prog 16 #[.pointer (some ⟨tb, 0, none⟩)] w fun e w' => ∃ b2, e = .returned (.pointer (some ⟨b2, 0, none⟩)) ∧ ∃ V Q, Vb w V Q b tb v ∧ Hv W0 w (fun g => V g ∨ Q g) tb t b2 (vw0 t.last) w' ∧ ∃ V2 Q2, Vb w' V2 Q2 b2 tb (vw0 t.last) ∧ Hv W0 w' (fun g => V2 g ∨ Q2 g) tb t b v w' := by
  obtain ⟨S, R, V, Q, h1, h2, h3, h4, h5, h6⟩ := h
  obtain ⟨mv, hb, _⟩ := h1.blk
  refine (vnew_any hb).mono ?_
  rintro e w' ⟨rfl, rfl⟩
  have s := h6.size
  have B : Below w.heap.size w (w.alloc (viewB tb t.last none none 0)) := box_below
  refine ⟨w.heap.size, rfl, V, Q, h2, ⟨S, R, _, _, h1.below B, Vb.new w tb t.last, h3, fun g hg => ?_, fun g hg => ⟨?_, B.block g (h2.lt g hg)⟩, below_size h6 h6.size B⟩, _, _, Vb.new w tb t.last, ⟨S, R, V, Q, h1.below B, h2.below B, h3, fun g hg => ⟨(h4 g hg).1, (h4 g hg).2.1, (h4 g hg).2.2.1, fun q => ?_⟩, fun g hg => ⟨?_, rfl⟩, below_size h6 h6.size B⟩⟩
  · rw [hg]
    exact ⟨by omega, fun q => by have := h1.sets.lt (.inl q); omega, fun q => by have := h1.sets.lt (.inr q); omega, fun q => by have := h2.lt _ q; omega⟩
  · have h7 := h2.lt g hg
    have h8 := B.size
    omega
  · rcases q with q | q
    · have h7 := h2.lt g (.inl hg); omega
    · exact q
  · rcases hg with hg | hg
    · rw [hg]; simp
    · exact hg.elim
end
end Go.Proofs.Yteomolihandfnaa
