/- rc.inBag, where nothing of that kind is there. -/
import Derived.Test.YtkkilenokpoaoaaIdx
namespace Go.Proofs.Ytkkilenokpoaoaa
open Go.RowKit
set_option maxRecDepth 100000
theorem vIdx_none {vs : List (Int × Int)} {x : Int × Int} (h : x ∉ vs) : ∀ i, vIdx vs i x = -1 := by
  induction vs with
  | nil => intro i; rfl
  | cons v t ih =>
    intro i
    simp only [List.mem_cons, not_or] at h
    rw [vIdx, if_neg (fun e => h.1 e.symm)]
    exact ih h.2 _
set_option maxHeartbeats 1000000 in
theorem inBag_gone {w : World} {base : Nat} {v : Value} {vs : List (Int × Int)} (p : Pp) (h : OwnV w base v vs) (ha : p.add = false) (hn : (p.k, p.n) ∉ vs) :
    Calls Try.prog 36 #[v, .agg #[.int .i64 p.oop, .bool p.add, .int .i64 p.k, .int .i64 p.n]] w (Did base v w none) := by
  obtain ⟨_, a, c, rfl, hv⟩ := h
  obtain ⟨oop, add, k, n⟩ := p
  simp only at ha hn ⊢
  subst ha
  have hi := index_any k n (hv.below (box_below (o := .cells #[.int .i64 oop, .bool false, .int .i64 k, .int .i64 n] 66)))
  rw [vIdx_none hn] at hi
  have B1 : Below w.heap.size w (w.alloc (.cells #[.int .i64 oop, .bool false, .int .i64 k, .int .i64 n] 66)) := box_below
  go_enter Try.func36, Try.ntmps36
  go_wp2_with fail
  refine hi.mono ?_
  rintro e w' ⟨rfl, B2⟩
  go_wp2
  go_ret2
  exact ⟨rfl, Kp.of (below_size B1 B1.size B2)⟩
end Go.Proofs.Ytkkilenokpoaoaa
