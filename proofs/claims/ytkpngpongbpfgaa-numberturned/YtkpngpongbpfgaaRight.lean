/- Right, of the program and of the document; taken. -/
import Derived.Test.YtkpngpongbpfgaaIsB
namespace Go.Proofs.Ytkpngpongbpfgaa
open Go.RowKit

/-- Can it be a number? -/
def rightB (neg : Bool) (xs : List Int) : Bool := if xs.length = 0 then !neg else decide (xs.length ≤ 128) && !(xs.getD 0 0 == 0)

theorem box_below (w : World) (o : Obj) : Below w.heap.size w (w.alloc o) := (Below.refl _ _).alloc (Nat.le_refl _) o

theorem ret_bool {a b : Bool} (h : a = b) : Ending.returned (.bool a) = .returned (.bool b) := by rw [h]

set_option maxRecDepth 100000 in
set_option maxHeartbeats 1000000 in
theorem right_any {a : Option Addr} {len cap : Nat} {xs : List Int} {w : World} (neg : Bool) (h : IsB w a len cap xs) :
    Calls Try.prog 44 #[.agg #[.bool neg, .slice a len cap]] w fun e w' => e = .returned (.bool (rightB neg xs)) ∧ Below w.heap.size w w' := by
  have hsz := h.size
  have hm := h.room
  have hmm := h.most
  unfold maxLen at hmm
  have hb := box_below w (.cells #[.bool neg, .slice a len cap] 28)
  have hI := h.below hb
  by_cases h0 : len = 0
  · have hr : Hid (rightB neg xs = !neg) := by show _ = _; unfold rightB; rw [if_pos (by omega)]
    subst h0
    go_enter Try.func44, Try.ntmps44
    go_wp2
    go_ret
    exact ⟨ret_bool (by rw [hr.out]), hb⟩
  · obtain ⟨b, off, rfl, hc⟩ := hI.cells (by omega)
    have hck := hc 0 (by omega)
    obtain ⟨c, hc8, hcx, _⟩ := byteAt xs h.byte 0 (by omega)
    rw [hcx, Nat.add_zero] at hck
    have h0' : ((len : Int) == 0) = false := by simp; omega
    by_cases h128 : len ≤ 128
    · have hr : Hid (rightB neg xs = !((c : Int) == 0)) := by show _ = _; unfold rightB; rw [if_neg (by omega), hcx]; simp; omega
      clear hc hcx
      go_enter Try.func44, Try.ntmps44
      go_wp2
      all_goals (go_ret; exact ⟨ret_bool (by rw [hr.out]; rfl), hb⟩)
    · have hr : Hid (rightB neg xs = false) := by show _ = _; unfold rightB; rw [if_neg (by omega)]; simp; omega
      clear hc hcx
      go_enter Try.func44, Try.ntmps44
      go_wp2
      all_goals (go_ret; exact ⟨ret_bool (by rw [hr.out]), hb⟩)

set_option maxRecDepth 100000 in
set_option maxHeartbeats 1000000 in
theorem rright_any {a : Option Addr} {len cap : Nat} {xs : List Int} {w : World} (neg : Bool) (h : IsB w a len cap xs) :
    Calls Try.prog 57 #[.agg #[.bool neg, .slice a len cap]] w fun e w' => e = .returned (.bool (rightB neg xs)) ∧ Below w.heap.size w w' := by
  have hsz := h.size
  have hm := h.room
  have hmm := h.most
  unfold maxLen at hmm
  have hb := box_below w (.cells #[.bool neg, .slice a len cap] 24)
  have hI := h.below hb
  by_cases h0 : len = 0
  · have hr : Hid (rightB neg xs = !neg) := by show _ = _; unfold rightB; rw [if_pos (by omega)]
    subst h0
    cases neg
    all_goals
      go_enter Try.func57, Try.ntmps57
      go_wp2
      all_goals (go_ret; exact ⟨ret_bool (by rw [hr.out]; rfl), hb⟩)
  · obtain ⟨b, off, rfl, hc⟩ := hI.cells (by omega)
    have hck := hc 0 (by omega)
    obtain ⟨c, hc8, hcx, _⟩ := byteAt xs h.byte 0 (by omega)
    rw [hcx, Nat.add_zero] at hck
    have h0' : ((len : Int) == 0) = false := by simp; omega
    have h0p : (0 : Int) < (len : Int) := by omega
    by_cases h128 : len ≤ 128
    · have hr : Hid (rightB neg xs = !((c : Int) == 0)) := by show _ = _; unfold rightB; rw [if_neg (by omega), hcx]; simp; omega
      clear hc hcx
      go_enter Try.func57, Try.ntmps57
      go_wp2
      all_goals (go_ret; exact ⟨ret_bool (by rw [hr.out]; rfl), hb⟩)
    · have hr : Hid (rightB neg xs = false) := by show _ = _; unfold rightB; rw [if_neg (by omega)]; simp; omega
      clear hc hcx
      go_enter Try.func57, Try.ntmps57
      go_wp2
      all_goals (go_ret; exact ⟨ret_bool (by rw [hr.out]), hb⟩)

/-- Same, of two that are alike. -/
theorem same_true {a1 a2 : Option Addr} {l1 l2 c1 c2 : Nat} {xs : List Int} {w : World} (neg : Bool) (h1 : IsB w a1 l1 c1 xs) (h2 : IsB w a2 l2 c2 xs) :
    Calls Try.prog 36 #[.agg #[.bool neg, .slice a1 l1 c1], .agg #[.bool neg, .slice a2 l2 c2]] w fun e w' => e = .returned (.bool true) ∧ Below w.heap.size w w' := by
  have hb : Below w.heap.size w ((w.alloc (.cells #[.bool neg, .slice a1 l1 c1] 24)).alloc (.cells #[.bool neg, .slice a2 l2 c2] 24)) := (box_below w _).alloc (by simp) _
  have s1 := (h1.below hb).str
  have s2 := (h2.below hb).str
  clear h1 h2
  go_enter Try.func36, Try.ntmps36
  go_wp2
  all_goals (go_ret; exact ⟨rfl, hb⟩)
end Go.Proofs.Ytkpngpongbpfgaa
