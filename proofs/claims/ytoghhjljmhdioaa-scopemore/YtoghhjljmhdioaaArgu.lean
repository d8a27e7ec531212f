/- Whether a Temp is an argument of the unit that has it. -/
import Derived.Test.YtoghhjljmhdioaaChn
namespace Go.Proofs.Ytoghhjljmhdioaa
open Go.RowKit
set_option maxRecDepth 100000
theorem bx29 {ops : Array Oper} {rest : List Oper} {o : Oper} {a : Act} {Q : Exit → Act → World → Prop} (w : World) (hgd : o.guard = none) (x : Operand) (ho : o.op = .box 29 x) (p : Int) (s : ByteArray) (k d i : Int) (b : Bool) (hx : a.eval x = .agg #[.int .i64 p, .string s, .int .i64 k, .int .i64 d, .int .i64 i, .bool b])
    (h : ∀ q w', w'.heap[q]? = some (usB p s k d i b) → w.heap.size ≤ q → Below w.heap.size w w' → wpList Try.prog ops Q rest (a.put o.dst (.pointer (some ⟨q, 0, none⟩))) w') : wpList Try.prog ops Q (o :: rest) a w :=
  wpList_plain hgd fun _ hK => by
    unfold Oper.wp execOp
    simp only [ho, hx]
    simp [go_sem]
    exact hK _ _ (h w.heap.size _ (newO w _) (Nat.le_refl _) boxO)
theorem argR_cons (x : List (List Int) × Nat) (E : Ev) (d i : Nat) : argR (x :: E) (d + 1) i = argR E d i := rfl
set_option maxHeartbeats 4000000 in
theorem argument_any {A : Nat → Prop} (E : Ev) (q : Option Nat) (t : List Int) (p k : Int) (d i : Nat) (b : Bool) (w : World) (C : Chn A w E q) (hl : E.length ≤ 1000000) (hd : d < E.length) :
    Calls Try.prog 58 #[ptrO q, usV t p k (d : Int) (i : Int) b] w fun e w' => e = .returned (.bool (argR E d i)) ∧ Below w.heap.size w w' := by
  unfold usV
  go_enter Try.func58, Try.ntmps58
  go_wp2_with (refine bx29 _ rfl _ rfl _ _ _ _ _ _ rfl ?_)
  intro g w1 E1 hg B1
  obtain ⟨y0, y1, y2, y3, y4, y5, _⟩ := us_cells E1
  go_wp2_with fail
  have C1 := C.below B1
  clear y0 y1 y2 y3 y4 y5
  go_loopw [5, 9] (fun v j wr => ∃ (m : Nat) (R : Ev) (o : Option Nat), j = .int .i64 (m : Int) ∧ v = ptrO o ∧ m ≤ d ∧ m + R.length = E.length ∧ Chn A wr R o ∧ argR E d i = argR R (d - m) i ∧ wr = w1) (fun _ j _ => d - (intOf j).toNat)
  case atStart => exact ⟨0, E, q, rfl, rfl, Nat.zero_le _, by omega, C1, rfl, rfl⟩
  case round =>
    obtain ⟨m, R, o, rfl, rfl, hm, hk, CR, ha, rfl⟩ := hrel
    cases R with
    | nil => exact absurd hk (by simp only [List.length_nil]; omega)
    | cons x R =>
      obtain ⟨l, n⟩ := x
      obtain ⟨bb, rfl, hA, k0, t0, p0, ks, na, nc, o', eb, s, c⟩ := CR
      rw [show ptrO (some bb) = Value.pointer (some ⟨bb, 0, none⟩) from rfl]
      obtain ⟨z0, z1, z2, z3, z4, z5, z6, _⟩ := un_cells eb
      obtain ⟨y0, y1, y2, y3, y4, y5, _⟩ := us_cells E1
      rw [List.length_cons] at hk
      by_cases hlt : m < d
      · have h1 : (m : Int) < (d : Int) := by omega
        have ha2 : argR E d i = argR R (d - (m + 1)) i := by
          rw [ha, show d - m = (d - (m + 1)) + 1 by omega, argR_cons]
        clear ha
        go_wp2
        go_roundw
        case rel => exact ⟨m + 1, R, o', by go_num, rfl, hlt, by omega, c, ha2, trivial⟩
        case measure => simp [intOf]; omega
      · have h1 : ¬ (m : Int) < (d : Int) := by omega
        have ha2 : argR E d i = decide (i < n) := by
          rw [ha, show d - m = 0 by omega]
          rfl
        clear ha
        go_wp2_with fail
        go_region
        go_wp2
        go_ret
        exact ⟨by rw [ha2]; rfl, B1.drew⟩
end Go.Proofs.Ytoghhjljmhdioaa
