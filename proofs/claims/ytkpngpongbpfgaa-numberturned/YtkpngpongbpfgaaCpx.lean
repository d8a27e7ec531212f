/- Complex numbers: products and quotients whose parts are no NaN. -/
import Derived.Test.YtkpngpongbpfgaaAlk
import Derived.Below
namespace Go.Proofs.Ytkpngpongbpfgaa
open Go.RowKit
set_option maxRecDepth 100000
theorem results_twoN {P : Program} {fn : Func} {tmps : Array Value} {a t c : Nat} {ad : Addr} {w : World} {v u : Value} (hf : fn.results = #[.cell a t, .tmp c]) (ha : tmps[a]?.getD undef = .pointer (some ad)) (hl : (loadVar t ad).run P w = .ok v w) (hu : tmps[c]?.getD undef = u) : (results fn tmps).run P w = .ok (.tuple #[v, u]) w := by
  unfold results
  rw [hf]
  simp [ha, asAddr, hl, hu]
theorem results_threeN {P : Program} {fn : Func} {tmps : Array Value} {a t c d : Nat} {ad : Addr} {w : World} {v u z : Value} (hf : fn.results = #[.cell a t, .tmp c, .tmp d]) (ha : tmps[a]?.getD undef = .pointer (some ad)) (hl : (loadVar t ad).run P w = .ok v w) (hu : tmps[c]?.getD undef = u) (hz : tmps[d]?.getD undef = z) : (results fn tmps).run P w = .ok (.tuple #[v, u, z]) w := by
  unfold results
  rw [hf]
  simp [ha, asAddr, hl, hu, hz]
theorem results_oneN {P : Program} {fn : Func} {tmps : Array Value} {a t : Nat} {ad : Addr} {w : World} {v : Value} (hf : fn.results = #[.cell a t]) (ha : tmps[a]?.getD undef = .pointer (some ad)) (hl : (loadVar t ad).run P w = .ok v w) : (results fn tmps).run P w = .ok v w := by
  unfold results
  rw [hf]
  simp [ha, asAddr, hl]
theorem below_setCell {B b i : Nat} {w w' : World} {x : Value} (h : Below B w w') (hb : B ≤ b) : Below B w (w'.setCell ⟨b, i, none⟩ x) := h.setCell hb x
theorem addr_addN (b off i : Nat) : (⟨b, off, none⟩ : Addr).add i = ⟨b, off + i, none⟩ := by simp [Addr.add]
def stP (w : World) (b : Nat) (p m : Bool) (v : Value) (x y : Nat) : World := (((w.setCell ⟨b, 0, none⟩ (.bool p)).setCell ⟨b, 1, none⟩ (.bool m)).setCell ⟨b, 2, none⟩ v).setCell ⟨b, 3, none⟩ (.complex .f64 x y)
theorem stP_blk {w : World} {b : Nat} {p0 m0 : Bool} {v0 : Value} {x0 y0 : Nat} (h : w.heap[b]? = some (numP p0 m0 v0 x0 y0)) (p m : Bool) (v : Value) (x y : Nat) : (stP w b p m v x y).heap[b]? = some (numP p m v x y) := by
  have h1 : (w.setCell ⟨b, 0, none⟩ (.bool p)).heap[b]? = some (numP p m0 v0 x0 y0) := by
    unfold numP at h ⊢
    rw [heap_setCell_same w b 0 _ _ _ h]
    simp
  have h2 : ((w.setCell ⟨b, 0, none⟩ (.bool p)).setCell ⟨b, 1, none⟩ (.bool m)).heap[b]? = some (numP p m v0 x0 y0) := by
    unfold numP at h1 ⊢
    rw [heap_setCell_same _ b 1 _ _ _ h1]
    simp
  have h3 : (((w.setCell ⟨b, 0, none⟩ (.bool p)).setCell ⟨b, 1, none⟩ (.bool m)).setCell ⟨b, 2, none⟩ v).heap[b]? = some (numP p m v x0 y0) := by
    unfold numP at h2 ⊢
    rw [heap_setCell_same _ b 2 _ _ _ h2]
    simp
  unfold stP
  unfold numP at h3 ⊢
  rw [heap_setCell_same _ b 3 _ _ _ h3]
  simp
theorem stP_other {w : World} {b g : Nat} (h : g ≠ b) (p m : Bool) (v : Value) (x y : Nat) : (stP w b p m v x y).heap[g]? = w.heap[g]? :=
  (heap_setCell_other _ ⟨b, 3, none⟩ g _ h).trans ((heap_setCell_other _ ⟨b, 2, none⟩ g _ h).trans ((heap_setCell_other _ ⟨b, 1, none⟩ g _ h).trans (heap_setCell_other _ ⟨b, 0, none⟩ g _ h)))
theorem stP_below {B b : Nat} {w w' : World} (h : Below B w w') (hb : B ≤ b) (p m : Bool) (v : Value) (x y : Nat) : Below B w (stP w' b p m v x y) := below_setCell (below_setCell (below_setCell (below_setCell h hb) hb) hb) hb
theorem load31 {w : World} {b : Nat} {p m : Bool} {v : Value} {x y : Nat} (h : w.heap[b]? = some (numP p m v x y)) : (loadVar 31 ⟨b, 0, none⟩).run Try.prog w = .ok (.agg #[.bool p, .bool m, v, .complex .f64 x y]) w := by
  obtain ⟨h0, h1, h2, h3, _⟩ := numP_cells h
  have hr := run_loadCells_list (P := Try.prog) w ⟨b, 0, none⟩ [.bool p, .bool m, v, .complex .f64 x y] (fun i u hi => by
    rw [addr_addN]
    match i, hi with
    | 0, hi => simp at hi; subst hi; exact h0
    | 1, hi => simp at hi; subst hi; exact h1
    | 2, hi => simp at hi; subst hi; exact h2
    | 3, hi => simp at hi; subst hi; exact h3
    | _ + 4, hi => simp at hi)
  have hagg : (isAgg 31).run Try.prog w = .ok true w := by simp [isAgg, run_underlying Try.underlying31]
  have hr' : (loadCells ⟨b, 0, none⟩ 4).run Try.prog w = .ok #[.bool p, .bool m, v, .complex .f64 x y] w := hr
  simp [loadVar, hagg, hr']
theorem stC_run (w : World) (a : Addr) (x y : Nat) : (store a (.complex .f64 x y)).run Try.prog w = stored Try.prog w a (.complex .f64 x y) .plain := run_store Try.prog w a _ .plain rfl
theorem stF_run (w : World) (a : Addr) (x : Nat) : (store a (.float .f64 x)).run Try.prog w = stored Try.prog w a (.float .f64 x) .plain := run_store Try.prog w a _ .plain rfl
/-- A product's parts. -/
structure TimesTo (a b c d r i : Nat) : Prop where
  ex : ∃ p1 p2 p3 p4, floatBits .mul .f64 a c = some p1 ∧ floatBits .mul .f64 b d = some p2 ∧ floatBits .sub .f64 p1 p2 = some r ∧ floatBits .mul .f64 a d = some p3 ∧ floatBits .mul .f64 b c = some p4 ∧ floatBits .add .f64 p3 p4 = some i
set_option maxHeartbeats 1000000 in
theorem times_any {a b c d r i : Nat} (h : TimesTo a b c d r i) (w : World) : Calls Try.prog 54 #[.complex .f64 a b, .complex .f64 c d] w fun e w' => e = .returned (.complex .f64 r i) ∧ w = w' := by
  obtain ⟨p1, p2, p3, p4, h1, h2, h3, h4, h5, h6⟩ := h.ex
  have g1 := fun (w : World) => run_float_arith (P := Try.prog) w .mul 25 .f64 a c p1 h1
  have g2 := fun (w : World) => run_float_arith (P := Try.prog) w .mul 25 .f64 b d p2 h2
  have g3 := fun (w : World) => run_float_arith (P := Try.prog) w .sub 25 .f64 p1 p2 r h3
  have g4 := fun (w : World) => run_float_arith (P := Try.prog) w .mul 25 .f64 a d p3 h4
  have g5 := fun (w : World) => run_float_arith (P := Try.prog) w .mul 25 .f64 b c p4 h5
  have g6 := fun (w : World) => run_float_arith (P := Try.prog) w .add 25 .f64 p3 p4 i h6
  clear h1 h2 h3 h4 h5 h6 h
  go_enter Try.func54, Try.ntmps54
  go_wp2
  go_ret
  exact ⟨rfl, rfl⟩
structure OverTo (a b c d r i : Nat) : Prop where
  ex : ∃ q1 q2 n p1 p2 s p3 p4 t, floatBits .mul .f64 c c = some q1 ∧ floatBits .mul .f64 d d = some q2 ∧ floatBits .add .f64 q1 q2 = some n ∧ floatBits .mul .f64 a c = some p1 ∧ floatBits .mul .f64 b d = some p2 ∧ floatBits .add .f64 p1 p2 = some s ∧ floatBits .mul .f64 b c = some p3 ∧ floatBits .mul .f64 a d = some p4 ∧ floatBits .sub .f64 p3 p4 = some t ∧ floatBits .quo .f64 s n = some r ∧ floatBits .quo .f64 t n = some i
set_option maxHeartbeats 1000000 in
theorem over_any {a b c d r i : Nat} (h : OverTo a b c d r i) (w : World) : Calls Try.prog 55 #[.complex .f64 a b, .complex .f64 c d] w fun e w' => e = .returned (.complex .f64 r i) ∧ w = w' := by
  obtain ⟨q1, q2, n, p1, p2, s, p3, p4, t, h1, h2, h3, h4, h5, h6, h7, h8, h9, h10, h11⟩ := h.ex
  have g1 := fun (w : World) => run_float_arith (P := Try.prog) w .mul 25 .f64 c c q1 h1
  have g2 := fun (w : World) => run_float_arith (P := Try.prog) w .mul 25 .f64 d d q2 h2
  have g3 := fun (w : World) => run_float_arith (P := Try.prog) w .add 25 .f64 q1 q2 n h3
  have g4 := fun (w : World) => run_float_arith (P := Try.prog) w .mul 25 .f64 a c p1 h4
  have g5 := fun (w : World) => run_float_arith (P := Try.prog) w .mul 25 .f64 b d p2 h5
  have g6 := fun (w : World) => run_float_arith (P := Try.prog) w .add 25 .f64 p1 p2 s h6
  have g7 := fun (w : World) => run_float_arith (P := Try.prog) w .mul 25 .f64 b c p3 h7
  have g8 := fun (w : World) => run_float_arith (P := Try.prog) w .mul 25 .f64 a d p4 h8
  have g9 := fun (w : World) => run_float_arith (P := Try.prog) w .sub 25 .f64 p3 p4 t h9
  have g10 := fun (w : World) => run_float_arith (P := Try.prog) w .quo 25 .f64 s n r h10
  have g11 := fun (w : World) => run_float_arith (P := Try.prog) w .quo 25 .f64 t n i h11
  clear h1 h2 h3 h4 h5 h6 h7 h8 h9 h10 h11 h
  go_enter Try.func55, Try.ntmps55
  go_wp2
  go_ret
  exact ⟨rfl, rfl⟩
end Go.Proofs.Ytkpngpongbpfgaa
