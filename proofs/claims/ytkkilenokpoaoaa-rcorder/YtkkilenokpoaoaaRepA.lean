/- rc.Replay of any object. -/
import Derived.Test.YtkkilenokpoaoaaBagS
import Derived.Test.YtkkilenokpoaoaaKnow
namespace Go.Proofs.Ytkkilenokpoaoaa
open Go.RowKit
set_option maxRecDepth 100000
/-- What Replay makes of slots. -/
def playAll (c : Int) (vs : List (Int × Int)) (ps : List Pp) : Option (List (Int × Int)) := if c = 13 then playS cnt vs ps else if c = 14 then playS bagS vs ps else none
/-- What it answers: it clashes, or slots and bytes of the call's own. -/
def RF (base : Nat) (c : Int) (bs : List Int) (R : Option (List (Int × Int))) (w' : World) (rc : Int) (ra : Option Addr) (rn rp : Nat) (rb : Option Addr) (rm rq : Nat) (re : Int) : Prop :=
  re = 30 ∨ re = 0 ∧ rc = c ∧ ∃ us, R = some us ∧ OwnV w' base (.slice ra rn rp) us ∧ OwnB w' base (.slice rb rm rq) bs
theorem RF.below {base : Nat} {c : Int} {bs : List Int} {R : Option (List (Int × Int))} {w w' : World} {rc : Int} {ra : Option Addr} {rn rp : Nat} {rb : Option Addr} {rm rq : Nat} {re : Int} (h : RF base c bs R w rc ra rn rp rb rm rq re) (B : Below w.heap.size w w') : RF base c bs R w' rc ra rn rp rb rm rq re :=
  h.imp_right fun ⟨h1, h2, us, h3, h4, h5⟩ => ⟨h1, h2, us, h3, h4.below B, h5.below B⟩
theorem RF.mono {base base' : Nat} {c : Int} {bs : List Int} {R : Option (List (Int × Int))} {w : World} {rc : Int} {ra : Option Addr} {rn rp : Nat} {rb : Option Addr} {rm rq : Nat} {re : Int} (h : RF base c bs R w rc ra rn rp rb rm rq re) (hb : base' ≤ base) : RF base' c bs R w rc ra rn rp rb rm rq re :=
  h.imp_right fun ⟨h1, h2, us, h3, h4, h5⟩ => ⟨h1, h2, us, h3, h4.mono hb, h5.mono hb⟩
theorem RF.stO {base : Nat} {c : Int} {bs : List Int} {R : Option (List (Int × Int))} {w : World} {rc : Int} {ra : Option Addr} {rn rp : Nat} {rb : Option Addr} {rm rq : Nat} {re : Int} (h : RF base c bs R w rc ra rn rp rb rm rq re) {b : Nat} {c0 : Int} {u1 u2 : Value} (hb : w.heap[b]? = some (objB c0 u1 u2)) (d : Int) (v1 v2 : Value) : RF base c bs R (stO w b d v1 v2) rc ra rn rp rb rm rq re :=
  h.imp_right fun ⟨h1, h2, us, h3, h4, h5⟩ => ⟨h1, h2, us, h3, ownV_of (stO_own h4.1 hb (by decide) _ _ _) h4.wf, ownB_of (stO_own h5.1 hb (by decide) _ _ _) h5.byte⟩
set_option maxHeartbeats 2000000 in
theorem replay_other {w : World} {c : Int} {sa ba pa : Option Addr} {sn sc bn bc pn pc : Nat} {vs : List (Int × Int)} {bs : List Int} (h : IsO w c sa sn sc ba bn bc vs bs) (hs : sn ≤ 8796093022208) (hb : bn ≤ 140737488355328) (h13 : ¬ c = 13) (h14 : ¬ c = 14) :
    Calls Try.prog 20 #[.agg #[.int .i64 c, .slice sa sn sc, .slice ba bn bc], .slice pa pn pc] w fun e w' => e = .returned (.tuple #[.agg #[.int .i64 0, .slice none 0 0, .slice none 0 0], .int .i64 30]) ∧ Below w.heap.size w w' := by
  go_enter Try.func20, Try.ntmps20
  go_wp2_with fail
  have B2 : Below w.heap.size w ((w.alloc (objB c (.slice sa sn sc) (.slice ba bn bc))).alloc (objB 0 (.slice none 0 0) (.slice none 0 0))) := below_size box_below box_below.size box_below
  have E2 : ((w.alloc (objB c (.slice sa sn sc) (.slice ba bn bc))).alloc (objB 0 (.slice none 0 0) (.slice none 0 0))).heap[w.heap.size + 1]? = some (objB 0 (.slice none 0 0) (.slice none 0 0)) := new2 _ _ _
  have E1 : ((w.alloc (objB c (.slice sa sn sc) (.slice ba bn bc))).alloc (objB 0 (.slice none 0 0) (.slice none 0 0))).heap[w.heap.size]? = some (objB c (.slice sa sn sc) (.slice ba bn bc)) := old1 (new1 _ _) _
  have h2 := (h.below (box_below (o := objB c (.slice sa sn sc) (.slice ba bn bc)))).below (box_below (o := objB 0 (.slice none 0 0) (.slice none 0 0)))
  have l1 : w.heap.size ≤ w.heap.size + 1 := by omega
  unfold objB at B2 E1 E2 h2
  generalize (w.alloc (.cells #[.int .i64 c, .slice sa sn sc, .slice ba bn bc] 38)).alloc (.cells #[.int .i64 0, .slice none 0 0, .slice none 0 0] 38) = w2 at *
  refine (copy_any h2 hs hb).mono ?_
  rintro e w3 ⟨vv, bv, rfl, OV, OB, B3⟩
  obtain ⟨va, vc, rfl⟩ : ∃ a c, vv = .slice a vs.length c := by obtain ⟨_, a, c, e, _⟩ := OV; exact ⟨a, c, e⟩
  obtain ⟨ba', bc', rfl⟩ : ∃ a c, bv = .slice a bs.length c := by obtain ⟨_, a, c, e, _⟩ := OB; exact ⟨a, c, e⟩
  have E1' := (B3.block _ (lt_of_block E1)).trans E1
  have E2' := (B3.block _ (lt_of_block E2)).trans E2
  have B4 : Below w.heap.size w w3 := below_size B2 B2.size B3
  have E1a := old1 E1' (objB c (.slice va vs.length vc) (.slice ba' bs.length bc'))
  have E2a := old1 E2' (objB c (.slice va vs.length vc) (.slice ba' bs.length bc'))
  have B5 : Below w.heap.size w (w3.alloc (objB c (.slice va vs.length vc) (.slice ba' bs.length bc'))) := below_size B4 B4.size box_below
  obtain ⟨y0, y1, y2, yf⟩ := obj_cells E1a
  obtain ⟨x0, x1, x2, xf⟩ := obj_cells E2a
  clear E1 E2 B2 B3 h2 E1' E2' OV OB B4 E1a y1 y2 yf
  unfold objB at y0 x0 x1 x2 xf E2a B5
  go_wp2_with fail
  clear x0 x1 x2 xf y0
  have E6 := stO_blk E2a 0 (.slice none 0 0) (.slice none 0 0)
  obtain ⟨z0, z1, z2, zf⟩ := obj_cells E6
  exact bodyPost_ret (v := .tuple #[.agg #[.int .i64 0, .slice none 0 0, .slice none 0 0], .int .i64 30]) (results_two Try.results20 rfl (load38 z0 z1 z2) rfl) rfl ⟨rfl, stO_below B5 l1 _ _ _⟩
theorem replay_all {w : World} {c : Int} {sa ba pa : Option Addr} {sn sc bn bc pn pc : Nat} {vs : List (Int × Int)} {bs : List Int} {ps : List Pp} (h : IsO w c sa sn sc ba bn bc vs bs) (hs : sn ≤ 8796093022208) (hb : bn ≤ 140737488355328) (hP : IsP w pa pn pc ps) :
    Calls Try.prog 20 #[.agg #[.int .i64 c, .slice sa sn sc, .slice ba bn bc], .slice pa pn pc] w fun e w' => ∃ rc ra rn rp rb rm rq re, e = .returned (.tuple #[.agg #[.int .i64 rc, .slice ra rn rp, .slice rb rm rq], .int .i64 re]) ∧ RF w.heap.size c bs (playAll c vs ps) w' rc ra rn rp rb rm rq re ∧ Below w.heap.size w w' := by
  have key : ∀ (d : Int) (R : Option (List (Int × Int))) (e : Ending) (w' : World), Rep w.heap.size d bs R e w' → Below w.heap.size w w' → ∃ rc ra rn rp rb rm rq re, e = .returned (.tuple #[.agg #[.int .i64 rc, .slice ra rn rp, .slice rb rm rq], .int .i64 re]) ∧ RF w.heap.size d bs R w' rc ra rn rp rb rm rq re ∧ Below w.heap.size w w' := by
    intro d R e w' hR B
    cases R with
    | none => exact ⟨0, none, 0, 0, none, 0, 0, 30, hR, .inl rfl, B⟩
    | some us =>
      obtain ⟨a, cap, b, n, bc, he, O, OB⟩ := hR
      exact ⟨d, a, _, cap, b, n, bc, 0, he, .inr ⟨rfl, rfl, us, rfl, O, OB⟩, B⟩
  by_cases h13 : c = 13
  · subst h13
    refine (replay_counter h hs hb hP).mono ?_
    rintro e w' ⟨hR, B⟩
    exact key 13 _ e w' hR B
  · by_cases h14 : c = 14
    · subst h14
      refine (replay_bag h hs hb hP).mono ?_
      rintro e w' ⟨hR, B⟩
      exact key 14 _ e w' hR B
    · refine (replay_other h hs hb h13 h14).mono ?_
      rintro e w' ⟨he, B⟩
      exact ⟨0, none, 0, 0, none, 0, 0, 30, he, .inl rfl, B⟩
end Go.Proofs.Ytkkilenokpoaoaa
