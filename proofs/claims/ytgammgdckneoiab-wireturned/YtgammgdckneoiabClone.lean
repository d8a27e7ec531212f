/- slices.Clone of bytes, and the document's Spoil of bytes of the call's own. -/
import Derived.Test.YtgammgdckneoiabApp
import Derived.Test.YtgammgdckneoiabKnown
import Derived.Lib.LazyBuf
namespace Go.Proofs.Ytgammgdckneoiab
open Go.RowKit

/-- A slice of bytes of the call's own, nil where there are none. -/
def OwnB (w : World) (base : Nat) (v : Value) (xs : List Int) : Prop :=
  w.ownsRow base 5 1 v xs.length (xs.map (Value.int .u8)) ∧ ∃ a cap, v = .slice a xs.length cap ∧ IsB w a xs.length cap xs

theorem ownB_of {w : World} {base n : Nat} {v : Value} {xs : List Int} (h : w.ownsRow base 5 1 v n (xs.map (Value.int .u8))) (hb : ∀ x ∈ xs, 0 ≤ x ∧ x < 256) : OwnB w base v xs := by
  have hl : xs.length = n := by have := h.1; simpa using this
  subst hl
  refine ⟨h, ?_⟩
  rcases h.2 with ⟨rfl, h0⟩ | ⟨g, cap, cur, rfl, _⟩
  · have : xs = [] := List.eq_nil_of_length_eq_zero h0
    subst this
    exact ⟨none, 0, rfl, ⟨rfl, Nat.le_refl _, by decide, fun _ => rfl, by simp, fun h => absurd h (by decide)⟩⟩
  · exact ⟨_, cap, rfl, isB_own h hb⟩

theorem clone_nil (w : World) : Calls Try.prog 14 #[.slice none 0 0] w fun e w' => e = .returned (.slice none 0 0) ∧ w = w' := by
  have hq := fun (w : World) (a : Option Addr) (l c : Nat) => Lib.run_eql_slice_nil (P := Try.prog) w 22 5 a l c 0 0 Try.underlying22
  go_enter Try.func14, Try.ntmps14
  go_wp2
  go_ret
  exact ⟨rfl, rfl⟩

set_option maxHeartbeats 1000000 in
theorem clone_some (ad : Addr) (len cap : Nat) (xs : List Int) (w : World) (h : IsB w (some ad) len cap xs) (hl : len ≤ 140737488355328) :
    Calls Try.prog 14 #[.slice (some ad) len cap] w fun e w' => ∃ v, e = .returned v ∧ OwnB w' w.heap.size v xs ∧ Below w.heap.size w w' := by
  have hq := fun (w : World) (a : Option Addr) (l c : Nat) => Lib.run_eql_slice_nil (P := Try.prog) w 22 5 a l c 0 0 Try.underlying22
  have hbel : Below w.heap.size w (w.alloc (.cells #[] 5)) := (Below.refl _ _).alloc (Nat.le_refl _) _
  have hown : (w.alloc (.cells #[] 5)).ownsRow w.heap.size 5 1 (.slice (some ⟨w.heap.size, 0, none⟩) 0 0) 0 (([] : List Int).map (Value.int .u8)) := World.ownsRow_lit w #[] 0 (Nat.le_refl _) (by decide) rfl
  go_enter Try.func14, Try.ntmps14
  go_wp2_with (at_builtin; refine app_bytes _ rfl _ _ rfl w.heap.size _ 0 [] rfl hown _ _ _ _ rfl (h.below hbel) (by omega) hl (by simp) ?_)
  intro v w1 hown1 hb1
  have hO := ownB_of hown1 h.byte
  clear hown1 hown
  obtain ⟨a', c', hv, _⟩ := hO.2
  rw [hv] at hO ⊢
  go_wp2
  go_ret
  exact ⟨_, rfl, hO, hbel.trans hb1⟩

theorem clone_any {a : Option Addr} {len cap : Nat} {xs : List Int} {w : World} (h : IsB w a len cap xs) (hl : len ≤ 140737488355328) :
    Calls Try.prog 14 #[.slice a len cap] w fun e w' => ∃ v, e = .returned v ∧ OwnB w' w.heap.size v xs ∧ Below w.heap.size w w' := by
  cases a with
  | none =>
    obtain ⟨rfl, rfl⟩ := h.nil' rfl
    obtain rfl : xs = [] := List.eq_nil_of_length_eq_zero h.size
    refine (clone_nil w).mono ?_
    rintro e w' ⟨rfl, rfl⟩
    exact ⟨_, rfl, ownB_of (n := 0) (World.ownsRow_nil _ _ _ _) (by simp), Below.refl _ _⟩
  | some ad => exact clone_some ad len cap xs w h hl

end Go.Proofs.Ytgammgdckneoiab
