/- A table, and two views of it, since a world. -/
import Derived.Test.YteomolihandfnaaVhd
namespace Go.Proofs.Yteomolihandfnaa
open Go.RowKit
set_option maxRecDepth 100000
def Hw (W0 W1 : World) (Y : Nat → Prop) (tb : Nat) (t : Tab) (b : Nat) (v : Vw) (b2 : Nat) (v2 : Vw) (w : World) : Prop := ∃ S R V Q V2 Q2, Tb w S R tb t ∧ Vb w V Q b tb v ∧ Vb w V2 Q2 b2 tb v2 ∧ (∀ g, S g → W0.heap.size ≤ g) ∧ (∀ g, V g → W0.heap.size ≤ g ∧ ¬ S g ∧ ¬ R g ∧ ¬ Y g ∧ ¬ V2 g ∧ ¬ Q2 g) ∧ (∀ g, V2 g → W0.heap.size ≤ g ∧ ¬ S g ∧ ¬ R g ∧ ¬ Y g ∧ ¬ V g ∧ ¬ Q g) ∧ (∀ g, Y g → g < w.heap.size ∧ w.heap[g]? = W1.heap[g]?) ∧ Below W0.heap.size W0 w
section
variable {W0 W1 w w' : World} {Y : Nat → Prop} {tb b b2 : Nat} {t : Tab} {v v2 : Vw}
theorem Hw.swap (h : Hw W0 W1 Y tb t b v b2 v2 w) : Hw W0 W1 Y tb t b2 v2 b v w := by
  obtain ⟨S, R, V, Q, V2, Q2, h1, h2, h3, h4, h5, h6, h7, h8⟩ := h
  exact ⟨S, R, V2, Q2, V, Q, h1, h3, h2, h4, h6, h5, h7, h8⟩
theorem Hw.belowW (h : Hw W0 W1 Y tb t b v b2 v2 w) : Below W0.heap.size W0 w := by
  obtain ⟨S, R, V, Q, V2, Q2, h1, h2, h3, h4, h5, h6, h7, h8⟩ := h
  exact h8
theorem Hw.hd (h : Hw W0 W1 Y tb t b v b2 v2 w) : Hd W0 tb t w := by
  obtain ⟨S, R, V, Q, V2, Q2, h1, h2, h3, h4, h5, h6, h7, h8⟩ := h
  exact ⟨S, R, h1, h4, h8⟩
theorem Hw.keptY (h : Hw W0 W1 Y tb t b v b2 v2 w) : ∀ g, Y g → w.heap[g]? = W1.heap[g]? := by
  obtain ⟨S, R, V, Q, V2, Q2, h1, h2, h3, h4, h5, h6, h7, h8⟩ := h
  exact fun g hg => (h7 g hg).2
theorem Hw.below (h : Hw W0 W1 Y tb t b v b2 v2 w) (hb : Below w.heap.size w w') : Hw W0 W1 Y tb t b v b2 v2 w' := by
  obtain ⟨S, R, V, Q, V2, Q2, h1, h2, h3, h4, h5, h6, h7, h8⟩ := h
  exact ⟨S, R, V, Q, V2, Q2, h1.below hb, h2.below hb, h3.below hb, h4, h5, h6, fun g hg => ⟨Nat.lt_of_lt_of_le (h7 g hg).1 hb.size, (hb.block g (h7 g hg).1).trans (h7 g hg).2⟩, below_size h8 h8.size hb⟩
/-- Blocks that are nobody's stay from now on. -/
theorem Hw.guard (h : Hw W0 W1 Y tb t b v b2 v2 w) (o : Obj) : Hw W0 (w.alloc o) (fun g => Y g ∨ g = w.heap.size) tb t b v b2 v2 (w.alloc o) := by
  have B : Below w.heap.size w (w.alloc o) := box_below
  obtain ⟨S, R, V, Q, V2, Q2, h1, h2, h3, h4, h5, h6, h7, h8⟩ := h
  refine ⟨S, R, V, Q, V2, Q2, h1.below B, h2.below B, h3.below B, h4, fun g hg => ⟨(h5 g hg).1, (h5 g hg).2.1, (h5 g hg).2.2.1, fun q => q.elim (h5 g hg).2.2.2.1 (fun e => by have := h2.lt g (.inl hg); omega), (h5 g hg).2.2.2.2⟩, fun g hg => ⟨(h6 g hg).1, (h6 g hg).2.1, (h6 g hg).2.2.1, fun q => q.elim (h6 g hg).2.2.2.1 (fun e => by have := h3.lt g (.inl hg); omega), (h6 g hg).2.2.2.2⟩, fun g hg => ⟨?_, rfl⟩, below_size h8 h8.size B⟩
  rcases hg with hg | hg
  · exact Nat.lt_of_lt_of_le (h7 g hg).1 B.size
  · rw [hg]; simp
theorem hw_step {S R V Q V2 Q2 : Nat → Prop} {v' : Vw} (h1 : Tb w S R tb t) (h3 : Vb w V2 Q2 b2 tb v2) (h4 : ∀ g, S g → W0.heap.size ≤ g) (h5 : ∀ g, V g → W0.heap.size ≤ g ∧ ¬ S g ∧ ¬ R g ∧ ¬ Y g ∧ ¬ V2 g ∧ ¬ Q2 g) (h6 : ∀ g, V2 g → W0.heap.size ≤ g ∧ ¬ S g ∧ ¬ R g ∧ ¬ Y g ∧ ¬ V g ∧ ¬ Q g) (h7 : ∀ g, Y g → g < w.heap.size ∧ w.heap[g]? = W1.heap[g]?) (h8 : Below W0.heap.size W0 w) (h : VwP w V Q b tb v' w') : Hw W0 W1 Y tb t b v' b2 v2 w' := by
  obtain ⟨V', Q', k1, k2, k3, k4⟩ := h
  have s := h8.size
  refine ⟨S, R, V', Q', V2, Q2, h1.same k4.size (fun g hg => k4.block g (h1.sets.lt hg) (fun q => hg.elim (h5 g q).2.1 (h5 g q).2.2.1)), k1, h3.same k4.size (fun g hg => k4.block g (h3.lt g hg) (fun q => hg.elim (h5 g q).2.2.2.2.1 (h5 g q).2.2.2.2.2)), h4, fun g hg => ?_, fun g hg => ?_, fun g hg => ⟨Nat.lt_of_lt_of_le (h7 g hg).1 k4.size, (k4.block g (h7 g hg).1 (fun q => (h5 g q).2.2.2.1 hg)).trans (h7 g hg).2⟩, k4.below h8 h8.size (fun g hg => (h5 g hg).1)⟩
  · rcases k2.new g hg with z | ⟨z, _⟩
    · exact h5 g z
    · exact ⟨by omega, fun q => by have := h1.sets.lt (.inl q); omega, fun q => by have := h1.sets.lt (.inr q); omega, fun q => by have := (h7 g q).1; omega, fun q => by have := h3.lt g (.inl q); omega, fun q => by have := h3.lt g (.inr q); omega⟩
  · obtain ⟨z1, z2, z3, z4, z5, z6⟩ := h6 g hg
    have lt := h3.lt g (.inl hg)
    refine ⟨z1, z2, z3, z4, fun q => ?_, fun q => ?_⟩
    · rcases k2.new g q with y | ⟨y, _⟩
      · exact z5 y
      · omega
    · rcases k3.new g q with y | ⟨y, _⟩
      · exact z6 y
      · omega
theorem hw_put (h : Hw W0 W1 Y tb t b v b2 v2 w) (k : Int) {c : Int} {sa ba : Option Addr} {sn sc bn bc : Nat} {vs : List (Int × Int)} {bs : List Int} (hO : IsO W0 c sa sn sc ba bn bc vs bs) :
    Calls Try.prog 18 #[.pointer (some ⟨b, 0, none⟩), .int .i64 k, .agg #[.int .i64 c, .slice sa sn sc, .slice ba bn bc]] w fun e w' => e = .returned (.int .i64 (putE v t k ⟨c, vs, bs⟩)) ∧ Hw W0 W1 Y tb t b (putV v t k ⟨c, vs, bs⟩) b2 v2 w' := by
  obtain ⟨S, R, V, Q, V2, Q2, h1, h2, h3, h4, h5, h6, h7, h8⟩ := h
  refine (put_any h2 h1 k hO h8 (h5 b h2.own).1).mono ?_
  rintro e w' ⟨rfl, hP⟩
  exact ⟨rfl, hw_step h1 h3 h4 h5 h6 h7 h8 hP⟩
theorem hw_make (h : Hw W0 W1 Y tb t b v b2 v2 w) {c : Int} {sa ba : Option Addr} {sn sc bn bc : Nat} {vs : List (Int × Int)} {bs : List Int} (hO : IsO W0 c sa sn sc ba bn bc vs bs) :
    Calls Try.prog 19 #[.pointer (some ⟨b, 0, none⟩), .agg #[.int .i64 c, .slice sa sn sc, .slice ba bn bc]] w fun e w' => e = .returned (.tuple #[.int .i64 (makeN v ⟨c, vs, bs⟩), .int .i64 (makeE v ⟨c, vs, bs⟩)]) ∧ Hw W0 W1 Y tb t b (makeV v ⟨c, vs, bs⟩) b2 v2 w' := by
  obtain ⟨S, R, V, Q, V2, Q2, h1, h2, h3, h4, h5, h6, h7, h8⟩ := h
  refine (make_any h2 hO h8 (h5 b h2.own).1).mono ?_
  rintro e w' ⟨rfl, hP⟩
  exact ⟨rfl, hw_step h1 h3 h4 h5 h6 h7 h8 hP⟩
theorem hw_read (h : Hw W0 W1 Y tb t b v b2 v2 w) (k : Int) :
    Calls Try.prog 29 #[.pointer (some ⟨b, 0, none⟩), .int .i64 k] w fun e w' => e = .returned (.tuple #[]) ∧ Hw W0 W1 Y tb t b (readV v k) b2 v2 w' := by
  obtain ⟨S, R, V, Q, V2, Q2, h1, h2, h3, h4, h5, h6, h7, h8⟩ := h
  refine (read_any h2 k).mono ?_
  rintro e w' ⟨rfl, hP⟩
  exact ⟨rfl, hw_step h1 h3 h4 h5 h6 h7 h8 hP⟩
theorem hw_peek (h : Hw W0 W1 Y tb t b v b2 v2 w) (k : Int) :
    Calls Try.prog 17 #[.pointer (some ⟨b, 0, none⟩), .int .i64 k] w fun e w' => PkQ w (peekR v t k) e w' := by
  obtain ⟨S, R, V, Q, V2, Q2, h1, h2, h3, h4, h5, h6, h7, h8⟩ := h
  exact peek_any h2 h1 k
theorem hw_get (h : Hw W0 W1 Y tb t b v b2 v2 w) (k : Int) :
    Calls Try.prog 20 #[.pointer (some ⟨b, 0, none⟩), .int .i64 k] w fun e w' => ∃ sa sn sc ba bn bc, e = .returned (.tuple #[.agg #[.int .i64 (clsR (peekR v t k)), .slice sa sn sc, .slice ba bn bc], .int .i64 (errR (peekR v t k))]) ∧ OwnV w' w.heap.size (.slice sa sn sc) (vsR (peekR v t k)) ∧ OwnB w' w.heap.size (.slice ba bn bc) (bsR (peekR v t k)) ∧ Hw W0 W1 Y tb t b (readV v k) b2 v2 w' := by
  obtain ⟨S, R, V, Q, V2, Q2, h1, h2, h3, h4, h5, h6, h7, h8⟩ := h
  refine (get_any h2 h1 (fun g hg q => hg.elim (h5 g q).2.1 (h5 g q).2.2.1) k).mono ?_
  rintro e w' ⟨sa, sn, sc, ba, bn, bc, rfl, o1, o2, hP⟩
  exact ⟨sa, sn, sc, ba, bn, bc, rfl, o1, o2, hw_step h1 h3 h4 h5 h6 h7 h8 hP⟩
theorem hw_base (h : Hw W0 W1 Y tb t b v b2 v2 w) : Calls Try.prog 30 #[.pointer (some ⟨b, 0, none⟩)] w fun e w' => e = .returned (.int .i64 v.base) ∧ w = w' := by
  obtain ⟨S, R, V, Q, V2, Q2, h1, h2, h3, h4, h5, h6, h7, h8⟩ := h
  obtain ⟨rm, om, hb, _, _, _⟩ := h2.blk
  exact vbase_any hb
/-- A second view. -/
theorem hv_second (h : Hv W0 W1 Y tb t b v w) : Calls Try.prog 16 #[.pointer (some ⟨tb, 0, none⟩)] w fun e w' => ∃ b2, e = .returned (.pointer (some ⟨b2, 0, none⟩)) ∧ Hw W0 W1 Y tb t b v b2 (vw0 t.last) w' := by
  obtain ⟨S, R, V, Q, h1, h2, h3, h4, h5, h6⟩ := h
  obtain ⟨mv, hb, _⟩ := h1.blk
  refine (vnew_any hb).mono ?_
  rintro e w' ⟨rfl, rfl⟩
  have s := h6.size
  have B : Below w.heap.size w (w.alloc (viewB tb t.last none none 0)) := box_below
  refine ⟨w.heap.size, rfl, S, R, V, Q, _, _, h1.below B, h2.below B, Vb.new w tb t.last, h3, fun g hg => ⟨(h4 g hg).1, (h4 g hg).2.1, (h4 g hg).2.2.1, (h4 g hg).2.2.2, fun q => ?_, fun q => q⟩, fun g hg => ?_, fun g hg => ⟨Nat.lt_of_lt_of_le (h5 g hg).1 B.size, (B.block g (h5 g hg).1).trans (h5 g hg).2⟩, below_size h6 h6.size B⟩
  · have h7 := h2.lt g (.inl hg); omega
  · rw [hg]
    exact ⟨by omega, fun q => by have := h1.sets.lt (.inl q); omega, fun q => by have := h1.sets.lt (.inr q); omega, fun q => by have := (h5 _ q).1; omega, fun q => by have := h2.lt _ (.inl q); omega, fun q => by have := h2.lt _ (.inr q); omega⟩
end
theorem isO_nil (w : World) {c : Int} (h : -9223372036854775808 ≤ c ∧ c ≤ 9223372036854775807) : IsO w c none 0 0 none 0 0 [] [] := ⟨h, (ownV_nil w 0).isV, (ownB_nil' w 0).isB⟩
/-- A literal of one record with one change. -/
theorem lit_recs {w : World} {g1 g2 : Nat} {oo cc c : Int} (h1 : w.heap[g1]? = some (chh oo false cc (.slice none 0 0) (.slice none 0 0))) (h2 : w.heap[g2]? = some (recB c (.slice (some ⟨g1, 0, none⟩) 1 1) 45)) (ho : -9223372036854775808 ≤ oo ∧ oo ≤ 9223372036854775807) (hcc : -9223372036854775808 ≤ cc ∧ cc ≤ 9223372036854775807) (hc : -9223372036854775808 ≤ c ∧ c ≤ 9223372036854775807) : IsRs w (some ⟨g2, 0, none⟩) 1 1 [⟨c, some ⟨g1, 0, none⟩, 1, 1, [⟨oo, false, cc, [], []⟩]⟩] := by
  have hO : OwnC w 0 72 (.slice (some ⟨g1, 0, none⟩) 1 1) [⟨oo, false, cc, [], []⟩] := by
    refine ⟨[⟨⟨oo, false, cc, [], []⟩, none, 0, 0, none, 0, 0⟩], ⟨rfl, .inr ⟨g1, 1, _, rfl, Nat.zero_le _, h1, Nat.le_refl _, by decide, rfl, rfl⟩⟩, rfl, fun s hs => ?_, fun x hx => ?_⟩
    · rw [List.mem_singleton] at hs
      subst hs
      exact ⟨hcc, ⟨0, ownV_nil _ _⟩, ⟨0, ownB_nil' _ _⟩⟩
    · rw [List.mem_singleton] at hx
      subst hx
      exact ho
  obtain ⟨z0, z1⟩ := rec_cells h2
  refine ⟨rfl, Nat.le_refl _, by decide, fun _ => ⟨g2, 0, rfl, fun i m hm => ?_⟩, fun m hm => ?_⟩
  · cases i with
    | zero => cases hm; exact ⟨z0, z1⟩
    | succ i => simp at hm
  · rw [List.mem_singleton] at hm
    subst hm
    exact ⟨hc, hO.isC, by simp, fun x hx => by rw [List.mem_singleton] at hx; subst hx; simp⟩
def kT : Tab := applyT tab0 1 [⟨5, false, 1, [], []⟩]
def kV : Vw := putV (vw0 1) kT 5 ⟨2, [], []⟩
theorem kE1 : putE (vw0 1) kT 5 ⟨2, [], []⟩ = 0 := by decide
theorem kE2 : makeN kV ⟨3, [], []⟩ = 4097 ∧ makeE kV ⟨3, [], []⟩ = 0 := by decide
theorem kE3 : clsR (peekR (makeV kV ⟨3, [], []⟩) kT 5) = 2 ∧ errR (peekR (makeV kV ⟨3, [], []⟩) kT 5) = 0 := by decide
theorem kE4 : clsR (peekR (vw0 1) kT 5) = 1 ∧ errR (peekR (vw0 1) kT 5) = 0 := by decide
theorem kE5 : (readV (makeV kV ⟨3, [], []⟩) 5).base = 1 := by decide
end Go.Proofs.Yteomolihandfnaa
