/- What a call on a view keeps: all rows but the view's. -/
import Derived.Test.YteomolihandfnaaOpv
namespace Go.Proofs.Yteomolihandfnaa
open Go.RowKit
set_option maxRecDepth 100000
structure KpV (w w' : World) : Prop where
  size : w.heap.size ≤ w'.heap.size
  keep : ∀ (g : Nat) (cur : Array Value) (e : Nat), w.heap[g]? = some (Obj.cells cur e (0, 0)) → e ≠ 83 → w'.heap[g]? = w.heap[g]?
theorem KpV.refl (w : World) : KpV w w := ⟨Nat.le_refl _, fun _ _ _ _ _ => rfl⟩
theorem KpV.trans {u v w : World} (h : KpV u v) (k : KpV v w) : KpV u w := ⟨Nat.le_trans h.size k.size, fun g cur e hg h1 => (k.keep g cur e ((h.keep g cur e hg h1).trans hg) h1).trans (h.keep g cur e hg h1)⟩
theorem KpV.below {w w' : World} (h : Below w.heap.size w w') : KpV w w' := ⟨h.size, fun g _ _ hg _ => h.block g (lt_of_block hg)⟩
theorem KpV.ownV {w w' : World} (h : KpV w w') {base : Nat} {v : Value} {vs : List (Int × Int)} (ho : OwnV w base v vs) : OwnV w' base v vs := ho.same fun g hg => by
  obtain ⟨_, cur, hh⟩ := own_block ho.1 hg
  exact h.keep g cur _ hh (by decide)
theorem KpV.ownB {w w' : World} (h : KpV w w') {base : Nat} {v : Value} {vs : List Int} (ho : OwnB w base v vs) : OwnB w' base v vs := ho.same fun g hg => by
  obtain ⟨_, cur, hh⟩ := own_block ho.1 hg
  exact h.keep g cur _ hh (by decide)
theorem KpV.obj {w w' : World} (h : KpV w w') {b : Nat} {c : Int} {v1 v2 : Value} (ho : w.heap[b]? = some (objB c v1 v2)) : w'.heap[b]? = some (objB c v1 v2) := by
  unfold objB at ho ⊢
  exact (h.keep b _ _ ho (by decide)).trans ho
theorem VwP.kp {w w' : World} {V Q : Nat → Prop} {b tb : Nat} {v v' : Vw} (h : Vb w V Q b tb v) (hP : VwP w V Q b tb v' w') : KpV w w' := by
  obtain ⟨V', Q', _, _, _, k4⟩ := hP
  exact ⟨k4.size, fun g cur e hg he => k4.block g (lt_of_block hg) (fun q => he (h.ty g cur e q hg))⟩
section
variable {W0 W1 w w' : World} {Y : Nat → Prop} {tb b b2 : Nat} {t : Tab} {v v2 : Vw}
theorem hv_putK (h : Hv W0 W1 Y tb t b v w) (k : Int) {c : Int} {sa ba : Option Addr} {sn sc bn bc : Nat} {vs : List (Int × Int)} {bs : List Int} (hO : IsO W0 c sa sn sc ba bn bc vs bs) :
    Calls Try.prog 18 #[.pointer (some ⟨b, 0, none⟩), .int .i64 k, .agg #[.int .i64 c, .slice sa sn sc, .slice ba bn bc]] w fun e w' => e = .returned (.int .i64 (putE v t k ⟨c, vs, bs⟩)) ∧ Hv W0 W1 Y tb t b (putV v t k ⟨c, vs, bs⟩) w' ∧ KpV w w' := by
  obtain ⟨S, R, V, Q, h1, h2, h3, h4, h5, h6⟩ := h
  refine (put_any h2 h1 k hO h6 (h4 b h2.own).1).mono ?_
  rintro e w' ⟨rfl, hP⟩
  exact ⟨rfl, hv_step h1 h3 h4 h5 h6 hP, hP.kp h2⟩
theorem hv_makeK (h : Hv W0 W1 Y tb t b v w) {c : Int} {sa ba : Option Addr} {sn sc bn bc : Nat} {vs : List (Int × Int)} {bs : List Int} (hO : IsO W0 c sa sn sc ba bn bc vs bs) :
    Calls Try.prog 19 #[.pointer (some ⟨b, 0, none⟩), .agg #[.int .i64 c, .slice sa sn sc, .slice ba bn bc]] w fun e w' => e = .returned (.tuple #[.int .i64 (makeN v ⟨c, vs, bs⟩), .int .i64 (makeE v ⟨c, vs, bs⟩)]) ∧ Hv W0 W1 Y tb t b (makeV v ⟨c, vs, bs⟩) w' ∧ KpV w w' := by
  obtain ⟨S, R, V, Q, h1, h2, h3, h4, h5, h6⟩ := h
  refine (make_any h2 hO h6 (h4 b h2.own).1).mono ?_
  rintro e w' ⟨rfl, hP⟩
  exact ⟨rfl, hv_step h1 h3 h4 h5 h6 hP, hP.kp h2⟩
theorem hv_readK (h : Hv W0 W1 Y tb t b v w) (k : Int) :
    Calls Try.prog 29 #[.pointer (some ⟨b, 0, none⟩), .int .i64 k] w fun e w' => e = .returned (.tuple #[]) ∧ Hv W0 W1 Y tb t b (readV v k) w' ∧ KpV w w' := by
  obtain ⟨S, R, V, Q, h1, h2, h3, h4, h5, h6⟩ := h
  refine (read_any h2 k).mono ?_
  rintro e w' ⟨rfl, hP⟩
  exact ⟨rfl, hv_step h1 h3 h4 h5 h6 hP, hP.kp h2⟩
theorem hv_getK (h : Hv W0 W1 Y tb t b v w) (k : Int) :
    Calls Try.prog 20 #[.pointer (some ⟨b, 0, none⟩), .int .i64 k] w fun e w' => ∃ sa sn sc ba bn bc, e = .returned (.tuple #[.agg #[.int .i64 (clsR (peekR v t k)), .slice sa sn sc, .slice ba bn bc], .int .i64 (errR (peekR v t k))]) ∧ OwnV w' w.heap.size (.slice sa sn sc) (vsR (peekR v t k)) ∧ OwnB w' w.heap.size (.slice ba bn bc) (bsR (peekR v t k)) ∧ Hv W0 W1 Y tb t b (readV v k) w' ∧ KpV w w' := by
  obtain ⟨S, R, V, Q, h1, h2, h3, h4, h5, h6⟩ := h
  refine (get_any h2 h1 (fun g hg q => hg.elim (h4 g q).2.1 (h4 g q).2.2.1) k).mono ?_
  rintro e w' ⟨sa, sn, sc, ba, bn, bc, rfl, o1, o2, hP⟩
  exact ⟨sa, sn, sc, ba, bn, bc, rfl, o1, o2, hv_step h1 h3 h4 h5 h6 hP, hP.kp h2⟩
theorem hw_putK (h : Hw W0 W1 Y tb t b v b2 v2 w) (k : Int) {c : Int} {sa ba : Option Addr} {sn sc bn bc : Nat} {vs : List (Int × Int)} {bs : List Int} (hO : IsO W0 c sa sn sc ba bn bc vs bs) :
    Calls Try.prog 18 #[.pointer (some ⟨b, 0, none⟩), .int .i64 k, .agg #[.int .i64 c, .slice sa sn sc, .slice ba bn bc]] w fun e w' => e = .returned (.int .i64 (putE v t k ⟨c, vs, bs⟩)) ∧ Hw W0 W1 Y tb t b (putV v t k ⟨c, vs, bs⟩) b2 v2 w' ∧ KpV w w' := by
  obtain ⟨S, R, V, Q, V2, Q2, h1, h2, h3, h4, h5, h6, h7, h8⟩ := h
  refine (put_any h2 h1 k hO h8 (h5 b h2.own).1).mono ?_
  rintro e w' ⟨rfl, hP⟩
  exact ⟨rfl, hw_step h1 h3 h4 h5 h6 h7 h8 hP, hP.kp h2⟩
theorem hw_makeK (h : Hw W0 W1 Y tb t b v b2 v2 w) {c : Int} {sa ba : Option Addr} {sn sc bn bc : Nat} {vs : List (Int × Int)} {bs : List Int} (hO : IsO W0 c sa sn sc ba bn bc vs bs) :
    Calls Try.prog 19 #[.pointer (some ⟨b, 0, none⟩), .agg #[.int .i64 c, .slice sa sn sc, .slice ba bn bc]] w fun e w' => e = .returned (.tuple #[.int .i64 (makeN v ⟨c, vs, bs⟩), .int .i64 (makeE v ⟨c, vs, bs⟩)]) ∧ Hw W0 W1 Y tb t b (makeV v ⟨c, vs, bs⟩) b2 v2 w' ∧ KpV w w' := by
  obtain ⟨S, R, V, Q, V2, Q2, h1, h2, h3, h4, h5, h6, h7, h8⟩ := h
  refine (make_any h2 hO h8 (h5 b h2.own).1).mono ?_
  rintro e w' ⟨rfl, hP⟩
  exact ⟨rfl, hw_step h1 h3 h4 h5 h6 h7 h8 hP, hP.kp h2⟩
theorem hw_readK (h : Hw W0 W1 Y tb t b v b2 v2 w) (k : Int) :
    Calls Try.prog 29 #[.pointer (some ⟨b, 0, none⟩), .int .i64 k] w fun e w' => e = .returned (.tuple #[]) ∧ Hw W0 W1 Y tb t b (readV v k) b2 v2 w' ∧ KpV w w' := by
  obtain ⟨S, R, V, Q, V2, Q2, h1, h2, h3, h4, h5, h6, h7, h8⟩ := h
  refine (read_any h2 k).mono ?_
  rintro e w' ⟨rfl, hP⟩
  exact ⟨rfl, hw_step h1 h3 h4 h5 h6 h7 h8 hP, hP.kp h2⟩
theorem hw_getK (h : Hw W0 W1 Y tb t b v b2 v2 w) (k : Int) :
    Calls Try.prog 20 #[.pointer (some ⟨b, 0, none⟩), .int .i64 k] w fun e w' => ∃ sa sn sc ba bn bc, e = .returned (.tuple #[.agg #[.int .i64 (clsR (peekR v t k)), .slice sa sn sc, .slice ba bn bc], .int .i64 (errR (peekR v t k))]) ∧ OwnV w' w.heap.size (.slice sa sn sc) (vsR (peekR v t k)) ∧ OwnB w' w.heap.size (.slice ba bn bc) (bsR (peekR v t k)) ∧ Hw W0 W1 Y tb t b (readV v k) b2 v2 w' ∧ KpV w w' := by
  obtain ⟨S, R, V, Q, V2, Q2, h1, h2, h3, h4, h5, h6, h7, h8⟩ := h
  refine (get_any h2 h1 (fun g hg q => hg.elim (h5 g q).2.1 (h5 g q).2.2.1) k).mono ?_
  rintro e w' ⟨sa, sn, sc, ba, bn, bc, rfl, o1, o2, hP⟩
  exact ⟨sa, sn, sc, ba, bn, bc, rfl, o1, o2, hw_step h1 h3 h4 h5 h6 h7 h8 hP, hP.kp h2⟩
end
end Go.Proofs.Yteomolihandfnaa
