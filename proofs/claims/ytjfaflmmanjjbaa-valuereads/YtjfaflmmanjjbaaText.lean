/- wire.Text and the document's own Text: bytes behind how many they are. -/
import Derived.Test.YtjfaflmmanjjbaaClone
import Derived.Test.YtjfaflmmanjjbaaRUint
namespace Go.Proofs.Ytjfaflmmanjjbaa
open Go.RowKit
set_option maxRecDepth 100000

/-- A text's bytes. -/
def textB (xs : List Int) : List Int := uvar xs.length ++ xs

theorem textB_byte (xs : List Int) (h : ∀ x ∈ xs, 0 ≤ x ∧ x < 256) (hl : xs.length ≤ 60000) : ∀ x ∈ textB xs, 0 ≤ x ∧ x < 256 := by
  intro x hx
  rcases List.mem_append.1 hx with hx | hx
  · exact uvar_byte xs.length (by omega) x hx
  · exact h x hx
theorem textB_len (xs : List Int) (hl : xs.length ≤ 60000) : (textB xs).length = usz xs.length + xs.length := by
  unfold textB; rw [List.length_append, uvar_length _ (by omega)]

theorem text_long (a : Option Addr) (len cap : Nat) (w : World) (h : 60000 < len) (hm : len ≤ maxLen) :
    Calls Try.prog 57 #[.slice a len cap] w fun e w' => e = .returned (.tuple #[.slice none 0 0, .int .i64 3]) ∧ w = w' := by
  unfold maxLen at hm
  have h1 : (60000 : Int) < (len : Int) := by omega
  go_enter Try.func57, Try.ntmps57
  go_wp2
  go_ret2
  exact ⟨rfl, rfl⟩
theorem rtext_long (a : Option Addr) (len cap : Nat) (w : World) (h : 60000 < len) (hm : len ≤ maxLen) :
    Calls Try.prog 59 #[.slice a len cap] w fun e w' => e = .returned (.tuple #[.slice none 0 0, .int .i64 3]) ∧ w = w' := by
  unfold maxLen at hm
  have h1 : (60000 : Int) < (len : Int) := by omega
  go_enter Try.func59, Try.ntmps59
  go_wp2
  go_ret2
  exact ⟨rfl, rfl⟩

theorem below_size' {w w1 w2 w3 : World} (h1 : Below w.heap.size w w1) (h2 : Below w1.heap.size w1 w2) (h3 : Below w1.heap.size w2 w3) : Below w.heap.size w w3 :=
  h1.trans ((h2.trans h3).mono h1.size)

theorem pair_world (w : World) (v0 v1 : Value) :
    Below w.heap.size w (w.alloc (.cells #[v0, v1] 25)) ∧ (w.alloc (.cells #[v0, v1] 25)).heap.size = w.heap.size + 1 ∧
    (w.alloc (.cells #[v0, v1] 25)).cell? ⟨w.heap.size, 0, none⟩ = some v0 ∧ (w.alloc (.cells #[v0, v1] 25)).cell? ⟨w.heap.size, 1, none⟩ = some v1 := by
  refine ⟨(Below.refl _ _).alloc (Nat.le_refl _) _, by simp, ?_, ?_⟩
  · rw [World.cell?_alloc_at _ _ _ _ rfl]; rfl
  · rw [World.cell?_alloc_at _ _ _ _ rfl]; rfl

set_option maxHeartbeats 1000000 in
theorem text_ok {a : Option Addr} {len cap : Nat} {xs : List Int} {w : World} (h : IsB w a len cap xs) (h2 : len ≤ 60000) :
    Calls Try.prog 57 #[.slice a len cap] w fun e w' => ∃ v, e = .returned (.tuple #[v, .int .i64 0]) ∧ OwnB w' w.heap.size v (textB xs) ∧ Below w.heap.size w w' := by
  have h60 : ¬ (60000 : Int) < (len : Int) := by omega
  have hu := usz_bd len
  go_enter Try.func57, Try.ntmps57
  go_wp2_with fail
  refine (uint_any len w (by omega)).mono ?_
  rintro e w1 ⟨rfl, hown1, hb1⟩
  have hB1 := isB_own hown1 (uvar_byte len (by omega))
  generalize hul : usz len = u at *
  go_wp2_with fail
  obtain ⟨f1, f2, f3, f4⟩ := pair_world w1 (.slice (some ⟨w.heap.size, 0, none⟩) u u) (.slice a len cap)
  refine (concat2 w1.heap.size (some ⟨w.heap.size, 0, none⟩) a u u len cap (uvar len) xs _ (hB1.below f1) ((h.below hb1).below f1) f3 f4 (by omega) (by omega)).mono ?_
  rintro e w2 ⟨c, rfl, hown, hbel⟩
  rw [f2] at hown hbel
  have hO : OwnB w2 w.heap.size (.slice (some ⟨w1.heap.size + 1, 0, none⟩) (u + len) c) (textB xs) := by
    have e : textB xs = uvar len ++ xs := by unfold textB; rw [h.size]
    rw [e]
    have hs := hb1.size
    exact ownB_of (own_mono hown (by omega)) (by rw [← e]; exact textB_byte xs h.byte (by rw [h.size]; exact h2))
  have hbw := below_size' hb1 f1 (hbel.mono (by omega))
  clear hown hbel hown1 hB1 f1 f2 f3 f4
  go_wp2
  go_ret2
  exact ⟨_, rfl, hO, hbw⟩

set_option maxHeartbeats 1000000 in
theorem rtext_ok {a : Option Addr} {len cap : Nat} {xs : List Int} {w : World} (h : IsB w a len cap xs) (h2 : len ≤ 60000) :
    Calls Try.prog 59 #[.slice a len cap] w fun e w' => ∃ v, e = .returned (.tuple #[v, .int .i64 0]) ∧ OwnB w' w.heap.size v (textB xs) ∧ Below w.heap.size w w' := by
  have h60 : ¬ (60000 : Int) < (len : Int) := by omega
  have hu := usz_bd len
  go_enter Try.func59, Try.ntmps59
  go_wp2_with fail
  refine (ruint_any len w (by omega)).mono ?_
  rintro e w1 ⟨g, c, rfl, hown1, hb1⟩
  go_wp2_with (at_builtin; refine app_bytes _ rfl _ _ rfl w.heap.size _ _ _ rfl hown1 _ _ _ _ rfl (h.below hb1) (by omega) (by omega) hb1.size ?_)
  intro v w2 hown2 hb2
  rw [← List.map_append] at hown2
  have hO : OwnB w2 w.heap.size v (textB xs) := by
    have e : textB xs = uvar len ++ xs := by unfold textB; rw [h.size]
    rw [e]
    exact ownB_of hown2 (by rw [← e]; exact textB_byte xs h.byte (by rw [h.size]; exact h2))
  clear hown2 hown1
  obtain ⟨a', c', hv, _⟩ := hO.2
  rw [hv] at hO ⊢
  go_wp2
  go_ret2
  exact ⟨_, rfl, hO, hb1.trans hb2⟩
end Go.Proofs.Ytjfaflmmanjjbaa
