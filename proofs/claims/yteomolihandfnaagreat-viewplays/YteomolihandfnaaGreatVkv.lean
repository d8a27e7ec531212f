/- A table, and a view of it, since a world. -/
import Derived.Test.YteomolihandfnaaGreatVpt
import Derived.ProofKit
import Derived.OpenShut
import Derived.SizedLaws
import Derived.Lib.SmallJoins
import Derived.Deep.Slices
namespace Go.Proofs.YteomolihandfnaaGreat
open Go.RowKit
set_option maxRecDepth 100000
/-- A table and a view of it, made since W0; Y: blocks that stay as in W1. -/
def Hv (W0 W1 : World) (Y : Nat → Prop) (tb : Nat) (t : Tab) (b : Nat) (v : Vw) (w : World) : Prop := ∃ S R V Q, Tb w S R tb t ∧ Vb w V Q b tb v ∧ (∀ g, S g → W0.heap.size ≤ g) ∧ (∀ g, V g → W0.heap.size ≤ g ∧ ¬ S g ∧ ¬ R g ∧ ¬ Y g) ∧ (∀ g, Y g → g < w.heap.size ∧ w.heap[g]? = W1.heap[g]?) ∧ Below W0.heap.size W0 w
section
variable {W0 W1 w w' : World} {Y : Nat → Prop} {tb b : Nat} {t : Tab} {v : Vw}
theorem Hv.belowW (h : Hv W0 W1 Y tb t b v w) : Below W0.heap.size W0 w := by
  obtain ⟨_, _, _, _, _, _, _, _, _, h6⟩ := h
  exact h6
theorem Hv.hd (h : Hv W0 W1 Y tb t b v w) : Hd W0 tb t w := by
  obtain ⟨S, R, V, Q, h1, h2, h3, h4, h5, h6⟩ := h
  exact ⟨S, R, h1, h3, h6⟩
theorem Hv.below (h : Hv W0 W1 Y tb t b v w) (hb : Below w.heap.size w w') : Hv W0 W1 Y tb t b v w' := by
  obtain ⟨S, R, V, Q, h1, h2, h3, h4, h5, h6⟩ := h
  exact ⟨S, R, V, Q, h1.below hb, h2.below hb, h3, h4, fun g hg => ⟨Nat.lt_of_lt_of_le (h5 g hg).1 hb.size, (hb.block g (h5 g hg).1).trans (h5 g hg).2⟩, below_size h6 h6.size hb⟩
theorem Hv.lowb (h : Hv W0 W1 Y tb t b v w) : W0.heap.size ≤ b := by
  obtain ⟨S, R, V, Q, h1, h2, h3, h4, h5, h6⟩ := h
  exact (h4 b h2.own).1
theorem Hv.keptY (h : Hv W0 W1 Y tb t b v w) : ∀ g, Y g → w.heap[g]? = W1.heap[g]? := by
  obtain ⟨S, R, V, Q, h1, h2, h3, h4, h5, h6⟩ := h
  exact fun g hg => (h5 g hg).2
theorem Hv.guard (h : Hv W0 W1 Y tb t b v w) (o : Obj) : Hv W0 (w.alloc o) (fun g => Y g ∨ g = w.heap.size) tb t b v (w.alloc o) := by
  have B : Below w.heap.size w (w.alloc o) := box_below
  obtain ⟨S, R, V, Q, h1, h2, h3, h4, h5, h6⟩ := h
  refine ⟨S, R, V, Q, h1.below B, h2.below B, h3, fun g hg => ⟨(h4 g hg).1, (h4 g hg).2.1, (h4 g hg).2.2.1, fun q => q.elim (h4 g hg).2.2.2 (fun e => by have := h2.lt g (.inl hg); omega)⟩, fun g hg => ⟨?_, rfl⟩, below_size h6 h6.size B⟩
  rcases hg with hg | hg
  · exact Nat.lt_of_lt_of_le (h5 g hg).1 B.size
  · rw [hg]; simp
theorem hv_step {S R V Q : Nat → Prop} {v' : Vw} (h1 : Tb w S R tb t) (h3 : ∀ g, S g → W0.heap.size ≤ g) (h4 : ∀ g, V g → W0.heap.size ≤ g ∧ ¬ S g ∧ ¬ R g ∧ ¬ Y g) (h5 : ∀ g, Y g → g < w.heap.size ∧ w.heap[g]? = W1.heap[g]?) (h6 : Below W0.heap.size W0 w) (h : VwP w V Q b tb v' w') : Hv W0 W1 Y tb t b v' w' := by
  obtain ⟨V', Q', k1, k2, k3, k4⟩ := h
  refine ⟨S, R, V', Q', h1.same k4.size (fun g hg => k4.block g (h1.sets.lt hg) (fun q => hg.elim (h4 g q).2.1 (h4 g q).2.2.1)), k1, h3, fun g hg => ?_, fun g hg => ⟨Nat.lt_of_lt_of_le (h5 g hg).1 k4.size, (k4.block g (h5 g hg).1 (fun q => (h4 g q).2.2.2 hg)).trans (h5 g hg).2⟩, k4.below h6 h6.size (fun g hg => (h4 g hg).1)⟩
  rcases k2.new g hg with z | ⟨z, _⟩
  · exact h4 g z
  · have := h6.size
    exact ⟨by omega, fun q => by have := h1.sets.lt (.inl q); omega, fun q => by have := h1.sets.lt (.inr q); omega, fun q => by have := (h5 g q).1; omega⟩
theorem hv_put (h : Hv W0 W1 Y tb t b v w) (k : Int) {c : Int} {sa ba : Option Addr} {sn sc bn bc : Nat} {vs : List (Int × Int)} {bs : List Int} (hO : IsO W0 c sa sn sc ba bn bc vs bs) :
    Calls Tryz.prog 16 #[.pointer (some ⟨b, 0, none⟩), .int .i64 k, .agg #[.int .i64 c, .slice sa sn sc, .slice ba bn bc]] w fun e w' => e = .returned (.int .i64 (putE v t k ⟨c, vs, bs⟩)) ∧ Hv W0 W1 Y tb t b (putV v t k ⟨c, vs, bs⟩) w' := by
  obtain ⟨S, R, V, Q, h1, h2, h3, h4, h5, h6⟩ := h
  refine (put_any h2 h1 k hO h6 (h4 b h2.own).1).mono ?_
  rintro e w' ⟨rfl, hP⟩
  exact ⟨rfl, hv_step h1 h3 h4 h5 h6 hP⟩
theorem hv_make (h : Hv W0 W1 Y tb t b v w) {c : Int} {sa ba : Option Addr} {sn sc bn bc : Nat} {vs : List (Int × Int)} {bs : List Int} (hO : IsO W0 c sa sn sc ba bn bc vs bs) :
    Calls Tryz.prog 18 #[.pointer (some ⟨b, 0, none⟩), .agg #[.int .i64 c, .slice sa sn sc, .slice ba bn bc]] w fun e w' => e = .returned (.tuple #[.int .i64 (makeN v ⟨c, vs, bs⟩), .int .i64 (makeE v ⟨c, vs, bs⟩)]) ∧ Hv W0 W1 Y tb t b (makeV v ⟨c, vs, bs⟩) w' := by
  obtain ⟨S, R, V, Q, h1, h2, h3, h4, h5, h6⟩ := h
  refine (make_any h2 hO h6 (h4 b h2.own).1).mono ?_
  rintro e w' ⟨rfl, hP⟩
  exact ⟨rfl, hv_step h1 h3 h4 h5 h6 hP⟩
theorem hv_read (h : Hv W0 W1 Y tb t b v w) (k : Int) :
    Calls Tryz.prog 13 #[.pointer (some ⟨b, 0, none⟩), .int .i64 k] w fun e w' => e = .returned (.tuple #[]) ∧ Hv W0 W1 Y tb t b (readV v k) w' := by
  obtain ⟨S, R, V, Q, h1, h2, h3, h4, h5, h6⟩ := h
  refine (read_any h2 k).mono ?_
  rintro e w' ⟨rfl, hP⟩
  exact ⟨rfl, hv_step h1 h3 h4 h5 h6 hP⟩
theorem hv_peek (h : Hv W0 W1 Y tb t b v w) (k : Int) :
    Calls Tryz.prog 11 #[.pointer (some ⟨b, 0, none⟩), .int .i64 k] w fun e w' => PkQ w (peekR v t k) e w' := by
  obtain ⟨S, R, V, Q, h1, h2, h3, h4, h5, h6⟩ := h
  exact peek_any h2 h1 k
theorem hv_get (h : Hv W0 W1 Y tb t b v w) (k : Int) :
    Calls Tryz.prog 7 #[.pointer (some ⟨b, 0, none⟩), .int .i64 k] w fun e w' => ∃ sa sn sc ba bn bc, e = .returned (.tuple #[.agg #[.int .i64 (clsR (peekR v t k)), .slice sa sn sc, .slice ba bn bc], .int .i64 (errR (peekR v t k))]) ∧ OwnV w' w.heap.size (.slice sa sn sc) (vsR (peekR v t k)) ∧ OwnB w' w.heap.size (.slice ba bn bc) (bsR (peekR v t k)) ∧ Hv W0 W1 Y tb t b (readV v k) w' := by
  obtain ⟨S, R, V, Q, h1, h2, h3, h4, h5, h6⟩ := h
  refine (get_any h2 h1 (fun g hg q => hg.elim (h4 g q).2.1 (h4 g q).2.2.1) k).mono ?_
  rintro e w' ⟨sa, sn, sc, ba, bn, bc, rfl, o1, o2, hP⟩
  exact ⟨sa, sn, sc, ba, bn, bc, rfl, o1, o2, hv_step h1 h3 h4 h5 h6 hP⟩
theorem hv_base (h : Hv W0 W1 Y tb t b v w) : Calls Tryz.prog 24 #[.pointer (some ⟨b, 0, none⟩)] w fun e w' => e = .returned (.int .i64 v.base) ∧ w = w' := by
  obtain ⟨S, R, V, Q, h1, h2, h3, h4, h5, h6⟩ := h
  obtain ⟨rm, om, hb, _, _, _⟩ := h2.blk
  exact vbase_any hb
/-- A new view of a table. -/
theorem hd_view (h : Hd W0 tb t w) : Calls Tryz.prog 5 #[.pointer (some ⟨tb, 0, none⟩)] w fun e w' => ∃ b, e = .returned (.pointer (some ⟨b, 0, none⟩)) ∧ Hv W0 w (fun _ => False) tb t b (vw0 t.last) w' := by
  obtain ⟨S, R, h1, h2, h3⟩ := h
  obtain ⟨mv, hb, _⟩ := h1.blk
  refine (vnew_any hb).mono ?_
  rintro e w' ⟨rfl, rfl⟩
  refine ⟨w.heap.size, rfl, S, R, _, _, h1.below box_below, Vb.new w tb t.last, h2, fun g hg => ?_, fun g hg => hg.elim, below_size h3 h3.size box_below⟩
  have := h3.size
  rw [hg]
  exact ⟨by omega, fun q => by have := h1.sets.lt (.inl q); omega, fun q => by have := h1.sets.lt (.inr q); omega, fun q => q⟩
/-- A second view of the table beside one that stays. -/
theorem hv_view {Y : Nat → Prop} (h : Hv W0 W1 Y tb t b v w) : Calls Tryz.prog 5 #[.pointer (some ⟨tb, 0, none⟩)] w fun e w' => ∃ b2, e = .returned (.pointer (some ⟨b2, 0, none⟩)) ∧ ∃ V Q, Vb w V Q b tb v ∧ Hv W0 w (fun g => V g ∨ Q g) tb t b2 (vw0 t.last) w' ∧ ∃ V2 Q2, Vb w' V2 Q2 b2 tb (vw0 t.last) ∧ Hv W0 w' (fun g => V2 g ∨ Q2 g) tb t b v w' := by
  obtain ⟨S, R, V, Q, h1, h2, h3, h4, h5, h6⟩ := h
  obtain ⟨mv, hb, _⟩ := h1.blk
  refine (vnew_any hb).mono ?_
  rintro e w' ⟨rfl, rfl⟩
  have s := h6.size
  have B : Below w.heap.size w (w.alloc (viewB tb t.last none none 0)) := box_below
  refine ⟨w.heap.size, rfl, V, Q, h2, ⟨S, R, _, _, h1.below B, Vb.new w tb t.last, h3, fun g hg => ?_, fun g hg => ⟨?_, B.block g (h2.lt g hg)⟩, below_size h6 h6.size B⟩, _, _, Vb.new w tb t.last, ⟨S, R, V, Q, h1.below B, h2.below B, h3, fun g hg => ⟨(h4 g hg).1, (h4 g hg).2.1, (h4 g hg).2.2.1, fun q => ?_⟩, fun g hg => ⟨?_, rfl⟩, below_size h6 h6.size B⟩⟩
  · rw [hg]
    exact ⟨by omega, fun q => by have := h1.sets.lt (.inl q); omega, fun q => by have := h1.sets.lt (.inr q); omega, fun q => by have := h2.lt _ q; omega⟩
  · have h7 := h2.lt g hg
    have h8 := B.size
    omega
  · rcases q with q | q
    · have h7 := h2.lt g (.inl hg); omega
    · exact q
  · rcases hg with hg | hg
    · rw [hg]; simp
    · exact hg.elim
end
end Go.Proofs.YteomolihandfnaaGreat
namespace Go.Proofs.YteomolihandfnaaGreat
open Go.RowKit
set_option maxRecDepth 100000
def Hw (W0 W1 : World) (Y : Nat → Prop) (tb : Nat) (t : Tab) (b : Nat) (v : Vw) (b2 : Nat) (v2 : Vw) (w : World) : Prop := ∃ S R V Q V2 Q2, Tb w S R tb t ∧ Vb w V Q b tb v ∧ Vb w V2 Q2 b2 tb v2 ∧ (∀ g, S g → W0.heap.size ≤ g) ∧ (∀ g, V g → W0.heap.size ≤ g ∧ ¬ S g ∧ ¬ R g ∧ ¬ Y g ∧ ¬ V2 g ∧ ¬ Q2 g) ∧ (∀ g, V2 g → W0.heap.size ≤ g ∧ ¬ S g ∧ ¬ R g ∧ ¬ Y g ∧ ¬ V g ∧ ¬ Q g) ∧ (∀ g, Y g → g < w.heap.size ∧ w.heap[g]? = W1.heap[g]?) ∧ Below W0.heap.size W0 w
section
variable {W0 W1 w w' : World} {Y : Nat → Prop} {tb b b2 : Nat} {t : Tab} {v v2 : Vw}
theorem Hw.swap (h : Hw W0 W1 Y tb t b v b2 v2 w) : Hw W0 W1 Y tb t b2 v2 b v w := by
  obtain ⟨S, R, V, Q, V2, Q2, h1, h2, h3, h4, h5, h6, h7, h8⟩ := h
  exact ⟨S, R, V2, Q2, V, Q, h1, h3, h2, h4, h6, h5, h7, h8⟩
theorem Hw.belowW (h : Hw W0 W1 Y tb t b v b2 v2 w) : Below W0.heap.size W0 w := by
  obtain ⟨S, R, V, Q, V2, Q2, h1, h2, h3, h4, h5, h6, h7, h8⟩ := h
  exact h8
theorem Hw.hd (h : Hw W0 W1 Y tb t b v b2 v2 w) : Hd W0 tb t w := by
  obtain ⟨S, R, V, Q, V2, Q2, h1, h2, h3, h4, h5, h6, h7, h8⟩ := h
  exact ⟨S, R, h1, h4, h8⟩
theorem Hw.keptY (h : Hw W0 W1 Y tb t b v b2 v2 w) : ∀ g, Y g → w.heap[g]? = W1.heap[g]? := by
  obtain ⟨S, R, V, Q, V2, Q2, h1, h2, h3, h4, h5, h6, h7, h8⟩ := h
  exact fun g hg => (h7 g hg).2
theorem Hw.below (h : Hw W0 W1 Y tb t b v b2 v2 w) (hb : Below w.heap.size w w') : Hw W0 W1 Y tb t b v b2 v2 w' := by
  obtain ⟨S, R, V, Q, V2, Q2, h1, h2, h3, h4, h5, h6, h7, h8⟩ := h
  exact ⟨S, R, V, Q, V2, Q2, h1.below hb, h2.below hb, h3.below hb, h4, h5, h6, fun g hg => ⟨Nat.lt_of_lt_of_le (h7 g hg).1 hb.size, (hb.block g (h7 g hg).1).trans (h7 g hg).2⟩, below_size h8 h8.size hb⟩
/-- Blocks that are nobody's stay from now on. -/
theorem Hw.guard (h : Hw W0 W1 Y tb t b v b2 v2 w) (o : Obj) : Hw W0 (w.alloc o) (fun g => Y g ∨ g = w.heap.size) tb t b v b2 v2 (w.alloc o) := by
  have B : Below w.heap.size w (w.alloc o) := box_below
  obtain ⟨S, R, V, Q, V2, Q2, h1, h2, h3, h4, h5, h6, h7, h8⟩ := h
  refine ⟨S, R, V, Q, V2, Q2, h1.below B, h2.below B, h3.below B, h4, fun g hg => ⟨(h5 g hg).1, (h5 g hg).2.1, (h5 g hg).2.2.1, fun q => q.elim (h5 g hg).2.2.2.1 (fun e => by have := h2.lt g (.inl hg); omega), (h5 g hg).2.2.2.2⟩, fun g hg => ⟨(h6 g hg).1, (h6 g hg).2.1, (h6 g hg).2.2.1, fun q => q.elim (h6 g hg).2.2.2.1 (fun e => by have := h3.lt g (.inl hg); omega), (h6 g hg).2.2.2.2⟩, fun g hg => ⟨?_, rfl⟩, below_size h8 h8.size B⟩
  rcases hg with hg | hg
  · exact Nat.lt_of_lt_of_le (h7 g hg).1 B.size
  · rw [hg]; simp
theorem hw_step {S R V Q V2 Q2 : Nat → Prop} {v' : Vw} (h1 : Tb w S R tb t) (h3 : Vb w V2 Q2 b2 tb v2) (h4 : ∀ g, S g → W0.heap.size ≤ g) (h5 : ∀ g, V g → W0.heap.size ≤ g ∧ ¬ S g ∧ ¬ R g ∧ ¬ Y g ∧ ¬ V2 g ∧ ¬ Q2 g) (h6 : ∀ g, V2 g → W0.heap.size ≤ g ∧ ¬ S g ∧ ¬ R g ∧ ¬ Y g ∧ ¬ V g ∧ ¬ Q g) (h7 : ∀ g, Y g → g < w.heap.size ∧ w.heap[g]? = W1.heap[g]?) (h8 : Below W0.heap.size W0 w) (h : VwP w V Q b tb v' w') : Hw W0 W1 Y tb t b v' b2 v2 w' := by
  obtain ⟨V', Q', k1, k2, k3, k4⟩ := h
  have s := h8.size
  refine ⟨S, R, V', Q', V2, Q2, h1.same k4.size (fun g hg => k4.block g (h1.sets.lt hg) (fun q => hg.elim (h5 g q).2.1 (h5 g q).2.2.1)), k1, h3.same k4.size (fun g hg => k4.block g (h3.lt g hg) (fun q => hg.elim (h5 g q).2.2.2.2.1 (h5 g q).2.2.2.2.2)), h4, fun g hg => ?_, fun g hg => ?_, fun g hg => ⟨Nat.lt_of_lt_of_le (h7 g hg).1 k4.size, (k4.block g (h7 g hg).1 (fun q => (h5 g q).2.2.2.1 hg)).trans (h7 g hg).2⟩, k4.below h8 h8.size (fun g hg => (h5 g hg).1)⟩
  · rcases k2.new g hg with z | ⟨z, _⟩
    · exact h5 g z
    · exact ⟨by omega, fun q => by have := h1.sets.lt (.inl q); omega, fun q => by have := h1.sets.lt (.inr q); omega, fun q => by have := (h7 g q).1; omega, fun q => by have := h3.lt g (.inl q); omega, fun q => by have := h3.lt g (.inr q); omega⟩
  · obtain ⟨z1, z2, z3, z4, z5, z6⟩ := h6 g hg
    have lt := h3.lt g (.inl hg)
    refine ⟨z1, z2, z3, z4, fun q => ?_, fun q => ?_⟩
    · rcases k2.new g q with y | ⟨y, _⟩
      · exact z5 y
      · omega
    · rcases k3.new g q with y | ⟨y, _⟩
      · exact z6 y
      · omega
theorem hw_put (h : Hw W0 W1 Y tb t b v b2 v2 w) (k : Int) {c : Int} {sa ba : Option Addr} {sn sc bn bc : Nat} {vs : List (Int × Int)} {bs : List Int} (hO : IsO W0 c sa sn sc ba bn bc vs bs) :
    Calls Tryz.prog 16 #[.pointer (some ⟨b, 0, none⟩), .int .i64 k, .agg #[.int .i64 c, .slice sa sn sc, .slice ba bn bc]] w fun e w' => e = .returned (.int .i64 (putE v t k ⟨c, vs, bs⟩)) ∧ Hw W0 W1 Y tb t b (putV v t k ⟨c, vs, bs⟩) b2 v2 w' := by
  obtain ⟨S, R, V, Q, V2, Q2, h1, h2, h3, h4, h5, h6, h7, h8⟩ := h
  refine (put_any h2 h1 k hO h8 (h5 b h2.own).1).mono ?_
  rintro e w' ⟨rfl, hP⟩
  exact ⟨rfl, hw_step h1 h3 h4 h5 h6 h7 h8 hP⟩
theorem hw_make (h : Hw W0 W1 Y tb t b v b2 v2 w) {c : Int} {sa ba : Option Addr} {sn sc bn bc : Nat} {vs : List (Int × Int)} {bs : List Int} (hO : IsO W0 c sa sn sc ba bn bc vs bs) :
    Calls Tryz.prog 18 #[.pointer (some ⟨b, 0, none⟩), .agg #[.int .i64 c, .slice sa sn sc, .slice ba bn bc]] w fun e w' => e = .returned (.tuple #[.int .i64 (makeN v ⟨c, vs, bs⟩), .int .i64 (makeE v ⟨c, vs, bs⟩)]) ∧ Hw W0 W1 Y tb t b (makeV v ⟨c, vs, bs⟩) b2 v2 w' := by
  obtain ⟨S, R, V, Q, V2, Q2, h1, h2, h3, h4, h5, h6, h7, h8⟩ := h
  refine (make_any h2 hO h8 (h5 b h2.own).1).mono ?_
  rintro e w' ⟨rfl, hP⟩
  exact ⟨rfl, hw_step h1 h3 h4 h5 h6 h7 h8 hP⟩
theorem hw_read (h : Hw W0 W1 Y tb t b v b2 v2 w) (k : Int) :
    Calls Tryz.prog 13 #[.pointer (some ⟨b, 0, none⟩), .int .i64 k] w fun e w' => e = .returned (.tuple #[]) ∧ Hw W0 W1 Y tb t b (readV v k) b2 v2 w' := by
  obtain ⟨S, R, V, Q, V2, Q2, h1, h2, h3, h4, h5, h6, h7, h8⟩ := h
  refine (read_any h2 k).mono ?_
  rintro e w' ⟨rfl, hP⟩
  exact ⟨rfl, hw_step h1 h3 h4 h5 h6 h7 h8 hP⟩
theorem hw_peek (h : Hw W0 W1 Y tb t b v b2 v2 w) (k : Int) :
    Calls Tryz.prog 11 #[.pointer (some ⟨b, 0, none⟩), .int .i64 k] w fun e w' => PkQ w (peekR v t k) e w' := by
  obtain ⟨S, R, V, Q, V2, Q2, h1, h2, h3, h4, h5, h6, h7, h8⟩ := h
  exact peek_any h2 h1 k
theorem hw_get (h : Hw W0 W1 Y tb t b v b2 v2 w) (k : Int) :
    Calls Tryz.prog 7 #[.pointer (some ⟨b, 0, none⟩), .int .i64 k] w fun e w' => ∃ sa sn sc ba bn bc, e = .returned (.tuple #[.agg #[.int .i64 (clsR (peekR v t k)), .slice sa sn sc, .slice ba bn bc], .int .i64 (errR (peekR v t k))]) ∧ OwnV w' w.heap.size (.slice sa sn sc) (vsR (peekR v t k)) ∧ OwnB w' w.heap.size (.slice ba bn bc) (bsR (peekR v t k)) ∧ Hw W0 W1 Y tb t b (readV v k) b2 v2 w' := by
  obtain ⟨S, R, V, Q, V2, Q2, h1, h2, h3, h4, h5, h6, h7, h8⟩ := h
  refine (get_any h2 h1 (fun g hg q => hg.elim (h5 g q).2.1 (h5 g q).2.2.1) k).mono ?_
  rintro e w' ⟨sa, sn, sc, ba, bn, bc, rfl, o1, o2, hP⟩
  exact ⟨sa, sn, sc, ba, bn, bc, rfl, o1, o2, hw_step h1 h3 h4 h5 h6 h7 h8 hP⟩
theorem hw_base (h : Hw W0 W1 Y tb t b v b2 v2 w) : Calls Tryz.prog 24 #[.pointer (some ⟨b, 0, none⟩)] w fun e w' => e = .returned (.int .i64 v.base) ∧ w = w' := by
  obtain ⟨S, R, V, Q, V2, Q2, h1, h2, h3, h4, h5, h6, h7, h8⟩ := h
  obtain ⟨rm, om, hb, _, _, _⟩ := h2.blk
  exact vbase_any hb
/-- A second view. -/
theorem hv_second (h : Hv W0 W1 Y tb t b v w) : Calls Tryz.prog 5 #[.pointer (some ⟨tb, 0, none⟩)] w fun e w' => ∃ b2, e = .returned (.pointer (some ⟨b2, 0, none⟩)) ∧ Hw W0 W1 Y tb t b v b2 (vw0 t.last) w' := by
  obtain ⟨S, R, V, Q, h1, h2, h3, h4, h5, h6⟩ := h
  obtain ⟨mv, hb, _⟩ := h1.blk
  refine (vnew_any hb).mono ?_
  rintro e w' ⟨rfl, rfl⟩
  have s := h6.size
  have B : Below w.heap.size w (w.alloc (viewB tb t.last none none 0)) := box_below
  refine ⟨w.heap.size, rfl, S, R, V, Q, _, _, h1.below B, h2.below B, Vb.new w tb t.last, h3, fun g hg => ⟨(h4 g hg).1, (h4 g hg).2.1, (h4 g hg).2.2.1, (h4 g hg).2.2.2, fun q => ?_, fun q => q⟩, fun g hg => ?_, fun g hg => ⟨Nat.lt_of_lt_of_le (h5 g hg).1 B.size, (B.block g (h5 g hg).1).trans (h5 g hg).2⟩, below_size h6 h6.size B⟩
  · have h7 := h2.lt g (.inl hg); omega
  · rw [hg]
    exact ⟨by omega, fun q => by have := h1.sets.lt (.inl q); omega, fun q => by have := h1.sets.lt (.inr q); omega, fun q => by have := (h5 _ q).1; omega, fun q => by have := h2.lt _ (.inl q); omega, fun q => by have := h2.lt _ (.inr q); omega⟩
end
theorem isO_nil (w : World) {c : Int} (h : -9223372036854775808 ≤ c ∧ c ≤ 9223372036854775807) : IsO w c none 0 0 none 0 0 [] [] := ⟨h, (ownV_nil w 0).isV, (ownB_nil' w 0).isB⟩
/-- A literal of one record with one change. -/
theorem lit_recs {w : World} {g1 g2 : Nat} {oo cc c : Int} (h1 : w.heap[g1]? = some (chh oo false cc (.slice none 0 0) (.slice none 0 0))) (h2 : w.heap[g2]? = some (recB c (.slice (some ⟨g1, 0, none⟩) 1 1) 38)) (ho : -9223372036854775808 ≤ oo ∧ oo ≤ 9223372036854775807) (hcc : -9223372036854775808 ≤ cc ∧ cc ≤ 9223372036854775807) (hc : -9223372036854775808 ≤ c ∧ c ≤ 9223372036854775807) : IsRs w (some ⟨g2, 0, none⟩) 1 1 [⟨c, some ⟨g1, 0, none⟩, 1, 1, [⟨oo, false, cc, [], []⟩]⟩] := by
  have hO : OwnC w 0 86 (.slice (some ⟨g1, 0, none⟩) 1 1) [⟨oo, false, cc, [], []⟩] := by
    refine ⟨[⟨⟨oo, false, cc, [], []⟩, none, 0, 0, none, 0, 0⟩], ⟨rfl, .inr ⟨g1, 1, _, rfl, Nat.zero_le _, h1, Nat.le_refl _, by decide, rfl, rfl⟩⟩, rfl, fun s hs => ?_, fun x hx => ?_⟩
    · rw [List.mem_singleton] at hs
      subst hs
      exact ⟨hcc, ⟨0, ownV_nil _ _⟩, ⟨0, ownB_nil' _ _⟩⟩
    · rw [List.mem_singleton] at hx
      subst hx
      exact ho
  obtain ⟨z0, z1⟩ := rec_cells h2
  refine ⟨rfl, Nat.le_refl _, by decide, fun _ => ⟨g2, 0, rfl, fun i m hm => ?_⟩, fun m hm => ?_⟩
  · cases i with
    | zero => cases hm; exact ⟨z0, z1⟩
    | succ i => simp at hm
  · rw [List.mem_singleton] at hm
    subst hm
    exact ⟨hc, hO.isC, by simp, fun x hx => by rw [List.mem_singleton] at hx; subst hx; simp⟩
def kT : Tab := applyT tab0 1 [⟨5, false, 1, [], []⟩]
def kV : Vw := putV (vw0 1) kT 5 ⟨2, [], []⟩
theorem kE1 : putE (vw0 1) kT 5 ⟨2, [], []⟩ = 0 := by decide
theorem kE2 : makeN kV ⟨3, [], []⟩ = 4097 ∧ makeE kV ⟨3, [], []⟩ = 0 := by decide
theorem kE3 : clsR (peekR (makeV kV ⟨3, [], []⟩) kT 5) = 2 ∧ errR (peekR (makeV kV ⟨3, [], []⟩) kT 5) = 0 := by decide
theorem kE4 : clsR (peekR (vw0 1) kT 5) = 1 ∧ errR (peekR (vw0 1) kT 5) = 0 := by decide
theorem kE5 : (readV (makeV kV ⟨3, [], []⟩) 5).base = 1 := by decide
end Go.Proofs.YteomolihandfnaaGreat
namespace Go.Proofs.YteomolihandfnaaGreat
open Go.RowKit
set_option maxRecDepth 100000
set_option maxHeartbeats 8000000 in
theorem known_true (w : World) : Calls Tryz.prog 35 #[] w fun e w' => e = .returned (.bool true) ∧ Below w.heap.size w w' := by
  have E1 := old1 (new1 w (chh 5 false 1 (.slice none 0 0) (.slice none 0 0))) (recB 1 (.slice (some ⟨w.heap.size, 0, none⟩) 1 1) 38)
  have E2 := new2 w (chh 5 false 1 (.slice none 0 0) (.slice none 0 0)) (recB 1 (.slice (some ⟨w.heap.size, 0, none⟩) 1 1) 38)
  have B1 : Below w.heap.size w ((w.alloc (chh 5 false 1 (.slice none 0 0) (.slice none 0 0))).alloc (recB 1 (.slice (some ⟨w.heap.size, 0, none⟩) 1 1) 38)) := below_size box_below box_below.size box_below
  have hR := lit_recs E1 E2 (by decide) (by decide) (by decide)
  unfold chh recB at B1 hR
  clear E1 E2
  go_enter Tryz.func35, Tryz.ntmps35
  go_wp2_with fail
  generalize (w.alloc (.cells #[.int .i64 5, .bool false, .int .i64 1, .slice none 0 0, .slice none 0 0] 86)).alloc (.cells #[.int .i64 1, .slice (some ⟨w.heap.size, 0, none⟩) 1 1] 38) = w1 at *
  refine (both_any hR).mono ?_
  rintro e w2 ⟨tb, ub, u, rfl, hb, _, _⟩
  have hd : Hd w1 tb kT w2 := hb.hd
  clear hb hR
  go_wp2_with fail
  refine (hd_view hd).mono ?_
  rintro e w3 ⟨vb, rfl, hv⟩
  clear hd
  go_wp2_with fail
  refine (hv_second hv).mono ?_
  rintro e w4 ⟨vc, rfl, hw⟩
  replace hw : Hw w1 w2 (fun _ => False) tb kT vb (vw0 1) vc (vw0 1) w4 := hw
  clear hv
  go_wp2_with fail
  refine (hw_put hw 5 (isO_nil w1 (c := 2) (by decide))).mono ?_
  rintro e w5 ⟨rfl, hw5⟩
  rw [kE1]
  replace hw5 : Hw w1 w2 (fun _ => False) tb kT vb kV vc (vw0 1) w5 := hw5
  clear hw
  go_wp2_with fail
  refine (hw_make hw5 (isO_nil w1 (c := 3) (by decide))).mono ?_
  rintro e w6 ⟨rfl, hw6⟩
  rw [kE2.1, kE2.2]
  clear hw5
  go_wp2_with fail
  refine (hw_get hw6 5).mono ?_
  rintro e w7 ⟨sa, sn, sc, ba, bn, bc, rfl, _, _, hw7⟩
  rw [kE3.1, kE3.2]
  clear hw6
  have E8 : (w7.alloc (.cells #[.int .i64 2, .slice sa sn sc, .slice ba bn bc] 35)).heap[w7.heap.size]? = some (.cells #[.int .i64 2, .slice sa sn sc, .slice ba bn bc] 35 (0, 0)) := new1 _ _
  have hw8 := (hw7.guard (.cells #[.int .i64 2, .slice sa sn sc, .slice ba bn bc] 35)).swap
  clear hw7
  go_wp2_with fail
  generalize w7.alloc (.cells #[.int .i64 2, .slice sa sn sc, .slice ba bn bc] 35) = w8 at *
  generalize w7.heap.size = b8 at *
  refine (hw_get hw8 5).mono ?_
  rintro e w9 ⟨ta, tn, tc, da, dn, dc, rfl, _, _, hw9⟩
  rw [kE4.1, kE4.2]
  have F8 := (hw9.keptY b8 (.inr rfl)).trans E8
  have B10 : Below w9.heap.size w9 (w9.alloc (.cells #[.int .i64 1, .slice ta tn tc, .slice da dn dc] 35)) := box_below
  have G8 := (B10.block b8 (lt_of_block F8)).trans F8
  have E10 : (w9.alloc (.cells #[.int .i64 1, .slice ta tn tc, .slice da dn dc] 35)).heap[w9.heap.size]? = some (.cells #[.int .i64 1, .slice ta tn tc, .slice da dn dc] 35 (0, 0)) := new1 _ _
  have hw10 := (hw9.below B10).swap
  have fin := below_size B1 B1.size hw10.belowW
  obtain ⟨x0, x1, x2, xf⟩ := obj_cells (c := 2) (v1 := .slice sa sn sc) (v2 := .slice ba bn bc) G8
  obtain ⟨y0, y1, y2, yf⟩ := obj_cells (c := 1) (v1 := .slice ta tn tc) (v2 := .slice da dn dc) E10
  have cb := hw_base hw10
  rw [kE5] at cb
  clear hw8 hw9 E8 F8 G8 E10 B10 hw10
  go_wp2_with (first
    | (go_at_call 24; refine cb.mono ?_; rintro e w' ⟨rfl, rfl⟩))
  go_ret
  exact ⟨rfl, fin⟩
end Go.Proofs.YteomolihandfnaaGreat
namespace Go.Proofs.YteomolihandfnaaGreat
open Go.ChangeShapes Go.WideShapes Go.ChangeAt Go.RowKit
set_option maxRecDepth 100000
/-- An object that came in. -/
theorem open_obj {H : Type} {enc : TypeId × Value → H} {W : World} {r : Reach} {b0 : Nat} {v : Value} {d : DataW H} {p : List MemPlace} {ts : List TypeId} {ds : List (DataW H)} {j : Nat}
    (hv : Value.okWide Tryz.prog W r b0 35 v) (h : DataW.Trod enc Tryz.prog W 0 (fun _ => true) true 35 v d p)
    (hsz : (DataW.weightsEach Tryz.prog ts ds).all (· ≤ reachBytes) = true) (ht : ts[j]? = some 35) (hd : ds[j]? = some d) :
    ∃ c sa sn sc ba bn bc vs bs, v = .agg #[.int .i64 c, .slice sa sn sc, .slice ba bn bc] ∧ IsO W c sa sn sc ba bn bc vs bs ∧ sn ≤ 8796093021952 ∧ bn ≤ 140737488351232 := by
  obtain ⟨v0, v1, v2, y0, y1, y2, m, rfl, rfl, rfl, h0, h1, h2⟩ := Joins.open_agg3 Tryz.underlying35 (by kernel_rfl) Tryz.cells35 hv h
  obtain ⟨n, hn, hy0, wn⟩ := DataW.trod_int Tryz.underlying2 h0
  obtain ⟨sa, sn, sc, hs1⟩ := Joins.slice_form Tryz.underlying32 h1
  obtain ⟨ba, bn, bc, hs2⟩ := Joins.slice_form Tryz.underlying33 h2
  obtain rfl := (List.cons.inj hn).1
  obtain rfl := (List.cons.inj hs1).1
  obtain rfl := (List.cons.inj hs2).1
  obtain ⟨vs, hV, hcv⟩ := open_vals (d := y1.1) (p := y1.2) h1 (fun elems spare he => by
    have hw := List.all_eq_true.1 hsz _ (DataW.weights_mem_each ht hd ((elems.length + spare.length) * Tryz.prog.bytesOf 80) (by
      simp [DataW.weights, Tryz.underlying35, DataW.weightsEach, he, Tryz.underlying32]))
    simpa using hw)
  obtain ⟨bs, hB, hcb⟩ := open_bytes (d := y2.1) (p := y2.2) h2 (fun elems spare he => by
    have hw := List.all_eq_true.1 hsz _ (DataW.weights_mem_each ht hd ((elems.length + spare.length) * Tryz.prog.bytesOf 5) (by
      simp [DataW.weights, Tryz.underlying35, DataW.weightsEach, he, Tryz.underlying33]))
    simpa using hw)
  exact ⟨n, sa, sn, sc, ba, bn, bc, vs, bs, rfl, ⟨okI wn, hV, hB⟩, by have := hV.room; omega, by have := hB.room; omega⟩
set_option maxRecDepth 100000
theorem open_val {H : Type} {enc : TypeId × Value → H} {W : World} {r : Reach} {b0 : Nat} {v : Value} {d : DataW H} {p : List MemPlace}
    (hv : Value.okWide Tryz.prog W r b0 80 v) (h : DataW.Trod enc Tryz.prog W 0 (fun _ => true) true 80 v d p) :
    ∃ x y, v = .agg #[.int .i64 x, .int .i64 y] ∧ (-9223372036854775808 ≤ x ∧ x ≤ 9223372036854775807) ∧ (-9223372036854775808 ≤ y ∧ y ≤ 9223372036854775807) := by
  obtain ⟨v0, v1, y0, y1, m, rfl, rfl, rfl, h0, h1⟩ := Joins.open_agg2 Tryz.underlying80 (by kernel_rfl) Tryz.cells80 hv h
  obtain ⟨n, hn, _, wn⟩ := DataW.trod_int Tryz.underlying3 h0
  obtain ⟨k, hk, _, wk⟩ := DataW.trod_int Tryz.underlying2 h1
  obtain rfl := (List.cons.inj hn).1
  obtain rfl := (List.cons.inj hk).1
  exact ⟨n, k, rfl, okI wn, okI wk⟩
end Go.Proofs.YteomolihandfnaaGreat
namespace Go.Proofs.YteomolihandfnaaGreat
open Go.RowKit
set_option maxRecDepth 100000
structure KpV (w w' : World) : Prop where
  size : w.heap.size ≤ w'.heap.size
  keep : ∀ (g : Nat) (cur : Array Value) (e : Nat), w.heap[g]? = some (Obj.cells cur e (0, 0)) → e ≠ 78 → w'.heap[g]? = w.heap[g]?
theorem KpV.refl (w : World) : KpV w w := ⟨Nat.le_refl _, fun _ _ _ _ _ => rfl⟩
theorem KpV.trans {u v w : World} (h : KpV u v) (k : KpV v w) : KpV u w := ⟨Nat.le_trans h.size k.size, fun g cur e hg h1 => (k.keep g cur e ((h.keep g cur e hg h1).trans hg) h1).trans (h.keep g cur e hg h1)⟩
theorem KpV.below {w w' : World} (h : Below w.heap.size w w') : KpV w w' := ⟨h.size, fun g _ _ hg _ => h.block g (lt_of_block hg)⟩
theorem KpV.ownV {w w' : World} (h : KpV w w') {base : Nat} {v : Value} {vs : List (Int × Int)} (ho : OwnV w base v vs) : OwnV w' base v vs := ho.same fun g hg => by
  obtain ⟨_, cur, hh⟩ := own_block ho.1 hg
  exact h.keep g cur _ hh (by decide)
theorem KpV.ownB {w w' : World} (h : KpV w w') {base : Nat} {v : Value} {vs : List Int} (ho : OwnB w base v vs) : OwnB w' base v vs := ho.same fun g hg => by
  obtain ⟨_, cur, hh⟩ := own_block ho.1 hg
  exact h.keep g cur _ hh (by decide)
theorem KpV.obj {w w' : World} (h : KpV w w') {b : Nat} {c : Int} {v1 v2 : Value} (ho : w.heap[b]? = some (objB c v1 v2)) : w'.heap[b]? = some (objB c v1 v2) := by
  unfold objB at ho ⊢
  exact (h.keep b _ _ ho (by decide)).trans ho
theorem VwP.kp {w w' : World} {V Q : Nat → Prop} {b tb : Nat} {v v' : Vw} (h : Vb w V Q b tb v) (hP : VwP w V Q b tb v' w') : KpV w w' := by
  obtain ⟨V', Q', _, _, _, k4⟩ := hP
  exact ⟨k4.size, fun g cur e hg he => k4.block g (lt_of_block hg) (fun q => he (h.ty g cur e q hg))⟩
section
variable {W0 W1 w w' : World} {Y : Nat → Prop} {tb b b2 : Nat} {t : Tab} {v v2 : Vw}
theorem hv_putK (h : Hv W0 W1 Y tb t b v w) (k : Int) {c : Int} {sa ba : Option Addr} {sn sc bn bc : Nat} {vs : List (Int × Int)} {bs : List Int} (hO : IsO W0 c sa sn sc ba bn bc vs bs) :
    Calls Tryz.prog 16 #[.pointer (some ⟨b, 0, none⟩), .int .i64 k, .agg #[.int .i64 c, .slice sa sn sc, .slice ba bn bc]] w fun e w' => e = .returned (.int .i64 (putE v t k ⟨c, vs, bs⟩)) ∧ Hv W0 W1 Y tb t b (putV v t k ⟨c, vs, bs⟩) w' ∧ KpV w w' := by
  obtain ⟨S, R, V, Q, h1, h2, h3, h4, h5, h6⟩ := h
  refine (put_any h2 h1 k hO h6 (h4 b h2.own).1).mono ?_
  rintro e w' ⟨rfl, hP⟩
  exact ⟨rfl, hv_step h1 h3 h4 h5 h6 hP, hP.kp h2⟩
theorem hv_makeK (h : Hv W0 W1 Y tb t b v w) {c : Int} {sa ba : Option Addr} {sn sc bn bc : Nat} {vs : List (Int × Int)} {bs : List Int} (hO : IsO W0 c sa sn sc ba bn bc vs bs) :
    Calls Tryz.prog 18 #[.pointer (some ⟨b, 0, none⟩), .agg #[.int .i64 c, .slice sa sn sc, .slice ba bn bc]] w fun e w' => e = .returned (.tuple #[.int .i64 (makeN v ⟨c, vs, bs⟩), .int .i64 (makeE v ⟨c, vs, bs⟩)]) ∧ Hv W0 W1 Y tb t b (makeV v ⟨c, vs, bs⟩) w' ∧ KpV w w' := by
  obtain ⟨S, R, V, Q, h1, h2, h3, h4, h5, h6⟩ := h
  refine (make_any h2 hO h6 (h4 b h2.own).1).mono ?_
  rintro e w' ⟨rfl, hP⟩
  exact ⟨rfl, hv_step h1 h3 h4 h5 h6 hP, hP.kp h2⟩
theorem hv_readK (h : Hv W0 W1 Y tb t b v w) (k : Int) :
    Calls Tryz.prog 13 #[.pointer (some ⟨b, 0, none⟩), .int .i64 k] w fun e w' => e = .returned (.tuple #[]) ∧ Hv W0 W1 Y tb t b (readV v k) w' ∧ KpV w w' := by
  obtain ⟨S, R, V, Q, h1, h2, h3, h4, h5, h6⟩ := h
  refine (read_any h2 k).mono ?_
  rintro e w' ⟨rfl, hP⟩
  exact ⟨rfl, hv_step h1 h3 h4 h5 h6 hP, hP.kp h2⟩
theorem hv_getK (h : Hv W0 W1 Y tb t b v w) (k : Int) :
    Calls Tryz.prog 7 #[.pointer (some ⟨b, 0, none⟩), .int .i64 k] w fun e w' => ∃ sa sn sc ba bn bc, e = .returned (.tuple #[.agg #[.int .i64 (clsR (peekR v t k)), .slice sa sn sc, .slice ba bn bc], .int .i64 (errR (peekR v t k))]) ∧ OwnV w' w.heap.size (.slice sa sn sc) (vsR (peekR v t k)) ∧ OwnB w' w.heap.size (.slice ba bn bc) (bsR (peekR v t k)) ∧ Hv W0 W1 Y tb t b (readV v k) w' ∧ KpV w w' := by
  obtain ⟨S, R, V, Q, h1, h2, h3, h4, h5, h6⟩ := h
  refine (get_any h2 h1 (fun g hg q => hg.elim (h4 g q).2.1 (h4 g q).2.2.1) k).mono ?_
  rintro e w' ⟨sa, sn, sc, ba, bn, bc, rfl, o1, o2, hP⟩
  exact ⟨sa, sn, sc, ba, bn, bc, rfl, o1, o2, hv_step h1 h3 h4 h5 h6 hP, hP.kp h2⟩
theorem hw_putK (h : Hw W0 W1 Y tb t b v b2 v2 w) (k : Int) {c : Int} {sa ba : Option Addr} {sn sc bn bc : Nat} {vs : List (Int × Int)} {bs : List Int} (hO : IsO W0 c sa sn sc ba bn bc vs bs) :
    Calls Tryz.prog 16 #[.pointer (some ⟨b, 0, none⟩), .int .i64 k, .agg #[.int .i64 c, .slice sa sn sc, .slice ba bn bc]] w fun e w' => e = .returned (.int .i64 (putE v t k ⟨c, vs, bs⟩)) ∧ Hw W0 W1 Y tb t b (putV v t k ⟨c, vs, bs⟩) b2 v2 w' ∧ KpV w w' := by
  obtain ⟨S, R, V, Q, V2, Q2, h1, h2, h3, h4, h5, h6, h7, h8⟩ := h
  refine (put_any h2 h1 k hO h8 (h5 b h2.own).1).mono ?_
  rintro e w' ⟨rfl, hP⟩
  exact ⟨rfl, hw_step h1 h3 h4 h5 h6 h7 h8 hP, hP.kp h2⟩
theorem hw_makeK (h : Hw W0 W1 Y tb t b v b2 v2 w) {c : Int} {sa ba : Option Addr} {sn sc bn bc : Nat} {vs : List (Int × Int)} {bs : List Int} (hO : IsO W0 c sa sn sc ba bn bc vs bs) :
    Calls Tryz.prog 18 #[.pointer (some ⟨b, 0, none⟩), .agg #[.int .i64 c, .slice sa sn sc, .slice ba bn bc]] w fun e w' => e = .returned (.tuple #[.int .i64 (makeN v ⟨c, vs, bs⟩), .int .i64 (makeE v ⟨c, vs, bs⟩)]) ∧ Hw W0 W1 Y tb t b (makeV v ⟨c, vs, bs⟩) b2 v2 w' ∧ KpV w w' := by
  obtain ⟨S, R, V, Q, V2, Q2, h1, h2, h3, h4, h5, h6, h7, h8⟩ := h
  refine (make_any h2 hO h8 (h5 b h2.own).1).mono ?_
  rintro e w' ⟨rfl, hP⟩
  exact ⟨rfl, hw_step h1 h3 h4 h5 h6 h7 h8 hP, hP.kp h2⟩
theorem hw_readK (h : Hw W0 W1 Y tb t b v b2 v2 w) (k : Int) :
    Calls Tryz.prog 13 #[.pointer (some ⟨b, 0, none⟩), .int .i64 k] w fun e w' => e = .returned (.tuple #[]) ∧ Hw W0 W1 Y tb t b (readV v k) b2 v2 w' ∧ KpV w w' := by
  obtain ⟨S, R, V, Q, V2, Q2, h1, h2, h3, h4, h5, h6, h7, h8⟩ := h
  refine (read_any h2 k).mono ?_
  rintro e w' ⟨rfl, hP⟩
  exact ⟨rfl, hw_step h1 h3 h4 h5 h6 h7 h8 hP, hP.kp h2⟩
theorem hw_getK (h : Hw W0 W1 Y tb t b v b2 v2 w) (k : Int) :
    Calls Tryz.prog 7 #[.pointer (some ⟨b, 0, none⟩), .int .i64 k] w fun e w' => ∃ sa sn sc ba bn bc, e = .returned (.tuple #[.agg #[.int .i64 (clsR (peekR v t k)), .slice sa sn sc, .slice ba bn bc], .int .i64 (errR (peekR v t k))]) ∧ OwnV w' w.heap.size (.slice sa sn sc) (vsR (peekR v t k)) ∧ OwnB w' w.heap.size (.slice ba bn bc) (bsR (peekR v t k)) ∧ Hw W0 W1 Y tb t b (readV v k) b2 v2 w' ∧ KpV w w' := by
  obtain ⟨S, R, V, Q, V2, Q2, h1, h2, h3, h4, h5, h6, h7, h8⟩ := h
  refine (get_any h2 h1 (fun g hg q => hg.elim (h5 g q).2.1 (h5 g q).2.2.1) k).mono ?_
  rintro e w' ⟨sa, sn, sc, ba, bn, bc, rfl, o1, o2, hP⟩
  exact ⟨sa, sn, sc, ba, bn, bc, rfl, o1, o2, hw_step h1 h3 h4 h5 h6 h7 h8 hP, hP.kp h2⟩
end
end Go.Proofs.YteomolihandfnaaGreat
