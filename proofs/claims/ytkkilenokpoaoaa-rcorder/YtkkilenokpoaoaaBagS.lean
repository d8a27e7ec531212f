/- rc.inBag: what it leaves of a Bag. -/
import Derived.Test.YtkkilenokpoaoaaAdd
namespace Go.Proofs.Ytkkilenokpoaoaa
open Go.RowKit
set_option maxRecDepth 100000
/-- Where a value stands first, or the end. -/
def vPos : List (Int × Int) → Int × Int → Nat
  | [], _ => 0
  | v :: t, x => if v = x then 0 else vPos t x + 1
theorem vIdx_pos : ∀ (vs : List (Int × Int)) (i : Nat) (x : Int × Int), x ∈ vs → vIdx vs i x = ((i + vPos vs x : Nat) : Int) ∧ vPos vs x < vs.length
  | [], i, x, h => by cases h
  | v :: t, i, x, h => by
    simp only [vIdx, vPos, List.length_cons]
    by_cases e : v = x
    · rw [if_pos e, if_pos e]
      simp
    · rw [if_neg e, if_neg e]
      have hm : x ∈ t := by
        rcases List.mem_cons.1 h with rfl | h
        · exact absurd rfl e
        · exact h
      obtain ⟨h1, h2⟩ := vIdx_pos t (i + 1) x hm
      rw [h1]
      exact ⟨by congr 1; omega, by omega⟩
/-- A value less in a Bag. -/
def bRem (vs : List (Int × Int)) (x : Int × Int) : List (Int × Int) := vs.take (vPos vs x) ++ vs.drop (vPos vs x + 1)
/-- A Bag's slots behind an op. -/
def bagS (vs : List (Int × Int)) (p : Pp) : Option (List (Int × Int)) := if p.add = true then addS vs (p.k, p.n) else if (p.k, p.n) ∈ vs then some (bRem vs (p.k, p.n)) else none
set_option maxHeartbeats 2000000 in
theorem inBag_add {w : World} {base : Nat} {v : Value} {vs : List (Int × Int)} (oop k n : Int) (h : OwnV w base v vs) (hb : base ≤ w.heap.size) (hk : I64 k) (hn : I64 n) :
    Calls Try.prog 36 #[v, .agg #[.int .i64 oop, .bool true, .int .i64 k, .int .i64 n]] w (Did base v w (addS vs (k, n))) := by
  obtain ⟨a, c, rfl⟩ : ∃ a c, v = .slice a vs.length c := by obtain ⟨_, a, c, e, _⟩ := h; exact ⟨a, c, e⟩
  have B1 : Below w.heap.size w (w.alloc (.cells #[.int .i64 oop, .bool true, .int .i64 k, .int .i64 n] 66)) := box_below
  have hA := added_any k n (h.below B1) (Nat.le_trans hb B1.size) hk hn
  generalize vs.length = L at *
  generalize addS vs (k, n) = R at *
  go_enter Try.func36, Try.ntmps36
  go_wp2_with fail
  refine hA.mono ?_
  intro e w2 hD
  cases R with
  | none =>
    obtain ⟨rfl, K⟩ := hD
    go_wp2
    go_ret2
    exact ⟨rfl, ⟨K.os.trans B1.os, K.tape.trans B1.tape, K.output.trans B1.output, Nat.le_trans B1.size K.size, fun j hj hn => (K.block j (by have := B1.size; omega) hn).trans (B1.block j hj)⟩⟩
  | some us =>
    obtain ⟨a2, c2, rfl, O, K⟩ := hD
    obtain ⟨M, hM⟩ : ∃ M, Hid (us.length = M) := ⟨_, rfl⟩
    rw [hM.out] at O ⊢
    go_wp2
    go_ret2
    exact did_some hM.out.symm rfl O ⟨K.os.trans B1.os, K.tape.trans B1.tape, K.output.trans B1.output, Nat.le_trans B1.size K.size, fun j hj hn => (K.block j (by have := B1.size; omega) hn).trans (B1.block j hj)⟩
set_option maxHeartbeats 2000000 in
theorem inBag_rem {w : World} {base g c m : Nat} {vs : List (Int × Int)} (oop k n : Int) (N : Nat) (hN : Hid (N = m + 1)) (h : OwnV w base (.slice (some ⟨g, 0, none⟩) N c) vs) (hm : (k, n) ∈ vs) :
    Calls Try.prog 36 #[.slice (some ⟨g, 0, none⟩) N c, .agg #[.int .i64 oop, .bool false, .int .i64 k, .int .i64 n]] w (Did base (.slice (some ⟨g, 0, none⟩) N c) w (some (bRem vs (k, n)))) := by
  have B1 : Below w.heap.size w (w.alloc (.cells #[.int .i64 oop, .bool false, .int .i64 k, .int .i64 n] 66)) := box_below
  have hi := index_any k n (h.below B1).isV
  obtain ⟨h1, h2⟩ := vIdx_pos vs 0 (k, n) hm
  have hl := own_len h
  rw [h1] at hi
  unfold bRem
  generalize vPos vs (k, n) = Q at *
  rw [show 0 + Q = Q by omega] at hi
  have hQ : Q ≤ m := by have := hN.out; omega
  have hbd : (Q : Int) < 9223372036854775807 := by
    have hv := h.isV
    have hr := hv.room
    have hx := hv.most
    unfold maxLen at hx
    omega
  have hlr : m = (vs.take Q ++ vs.drop (Q + 1)).length := by have := hN.out; simp; omega
  have hw1 : IntKind.i64.wrap ((Q : Int) + 1) = (Q : Int) + 1 := by rw [IntKind.wrap_i64]; omega
  clear h1 h2 hl hbd
  replace hlr : Hid (m = (vs.take Q ++ vs.drop (Q + 1)).length) := hlr
  go_enter Try.func36, Try.ntmps36
  go_wp2_with fail
  refine hi.mono ?_
  rintro e w2 ⟨rfl, B2⟩
  have B3 := below_size B1 B1.size B2
  have hD := delete_any (i := Q) hN (h.below B3) hQ
  clear hi B1 B2
  go_wp2_with fail
  refine hD.mono ?_
  rintro e w4 ⟨rfl, O, K⟩
  go_wp2
  go_ret2
  exact did_some hlr.out rfl O ⟨K.os.trans B3.os, K.tape.trans B3.tape, K.output.trans B3.output, Nat.le_trans B3.size K.size, fun j hj hn => (K.block j (by have := B3.size; omega) hn).trans (B3.block j hj)⟩
theorem inBag_any {w : World} {base : Nat} {v : Value} {vs : List (Int × Int)} (p : Pp) (h : OwnV w base v vs) (hb : base ≤ w.heap.size) (hp : p.ok) :
    Calls Try.prog 36 #[v, .agg #[.int .i64 p.oop, .bool p.add, .int .i64 p.k, .int .i64 p.n]] w (Did base v w (bagS vs p)) := by
  obtain ⟨oop, add, k, n⟩ := p
  cases add with
  | true => exact inBag_add oop k n h hb hp.2.1 hp.2.2
  | false =>
    by_cases hm : (k, n) ∈ vs
    · rw [show bagS vs ⟨oop, false, k, n⟩ = some (bRem vs (k, n)) by simp [bagS, hm]]
      rcases h.1.2 with ⟨_, h0⟩ | ⟨g, c, cur, rfl, _⟩
      · have : vs = [] := List.eq_nil_of_length_eq_zero h0
        subst this
        cases hm
      · obtain ⟨m, hN⟩ : ∃ m, vs.length = m + 1 := by
          cases vs with
          | nil => cases hm
          | cons _ t => exact ⟨t.length, rfl⟩
        exact inBag_rem oop k n vs.length hN h hm
    · rw [show bagS vs ⟨oop, false, k, n⟩ = none by simp [bagS, hm]]
      exact inBag_gone ⟨oop, false, k, n⟩ h rfl hm
theorem replay_bag {w : World} {sa ba pa : Option Addr} {sn sc bn bc pn pc : Nat} {vs : List (Int × Int)} {bs : List Int} {ps : List Pp} (h : IsO w 14 sa sn sc ba bn bc vs bs) (hs : sn ≤ 8796093022208) (hb : bn ≤ 140737488355328) (hP : IsP w pa pn pc ps) :
    Calls Try.prog 20 #[.agg #[.int .i64 14, .slice sa sn sc, .slice ba bn bc], .slice pa pn pc] w fun e w' => Rep w.heap.size 14 bs (playS bagS vs ps) e w' ∧ Below w.heap.size w w' :=
  replay_bagG h hs hb hP bagS (fun _ => True) trivial (fun _ p _ hp => ⟨fun _ _ => trivial, fun _ _ _ hO hb => inBag_any p hO hb (hP.wf p hp)⟩)
end Go.Proofs.Ytkkilenokpoaoaa
