/- wire.Frame: bytes behind their length and their sum. -/
import Derived.Test.YtgammgdckneoiabCat
namespace Go.Proofs.Ytgammgdckneoiab
open Go.RowKit

/-- A number's four bytes, the highest first. -/
def four (n : Int) : List Int := [n / 16777216, n / 65536 % 256, n / 256 % 256, n % 256]
/-- A frame's bytes. -/
def frameB (xs : List Int) : List Int := four (xs.length : Int) ++ four (crc xs : Int) ++ xs

theorem own_mono {w : World} {b b' e n m : Nat} {v : Value} {xs : List Value} (h : w.ownsRow b' e m v n xs) (hb : b ≤ b') : w.ownsRow b e m v n xs := by
  obtain ⟨h1, h2⟩ := h
  refine ⟨h1, ?_⟩
  rcases h2 with h2 | ⟨g, cap, cur, hv, hg, h3⟩
  · exact .inl h2
  · exact .inr ⟨g, cap, cur, hv, Nat.le_trans hb hg, h3⟩

theorem frame_short (a : Option Addr) (cap : Nat) (w : World) :
    Calls Try.prog 4 #[.slice a 0 cap] w fun e w' => e = .returned (.tuple #[.slice none 0 0, .int .i64 3]) ∧ w = w' := by
  go_enter Try.func4, Try.ntmps4
  go_wp2
  go_ret2
  exact ⟨rfl, rfl⟩

theorem frame_long (a : Option Addr) (len cap : Nat) (w : World) (h : 60000 < len) (hm : len ≤ maxLen) :
    Calls Try.prog 4 #[.slice a len cap] w fun e w' => e = .returned (.tuple #[.slice none 0 0, .int .i64 3]) ∧ w = w' := by
  unfold maxLen at hm
  have h0 : ((len : Int) == 0) = false := by simp; omega
  have h1 : (60000 : Int) < (len : Int) := by omega
  go_enter Try.func4, Try.ntmps4
  go_wp2
  go_ret2
  exact ⟨rfl, rfl⟩

theorem crc_lt (xs : List Int) : crc xs < 4294967296 := by unfold crc; omega

theorem four_byte (n : Int) (h0 : 0 ≤ n) (h1 : n < 4294967296) : ∀ x ∈ four n, 0 ≤ x ∧ x < 256 := by
  intro x hx
  simp only [four, List.mem_cons, List.not_mem_nil, or_false] at hx
  rcases hx with rfl | rfl | rfl | rfl <;> omega

theorem frame_world (w : World) (o1 o2 : Obj) (hs : List Int) (hl : hs.length = 8) (hb : ∀ x ∈ hs, 0 ≤ x ∧ x < 256) (C : Array Value) (hC : C = (hs.map (Value.int .u8)).toArray) (v0 v1 : Value) :
    Below w.heap.size w ((((w.alloc o1).alloc o2).alloc (.cells C 33)).alloc (.cells #[v0, v1] 22)) ∧
    ((((w.alloc o1).alloc o2).alloc (.cells C 33)).alloc (.cells #[v0, v1] 22)).heap.size = w.heap.size + 4 ∧
    IsB ((((w.alloc o1).alloc o2).alloc (.cells C 33)).alloc (.cells #[v0, v1] 22)) (some ⟨w.heap.size + 1 + 1, 0, none⟩) 8 8 hs ∧
    ((((w.alloc o1).alloc o2).alloc (.cells C 33)).alloc (.cells #[v0, v1] 22)).cell? ⟨w.heap.size + 1 + 1 + 1, 0, none⟩ = some v0 ∧
    ((((w.alloc o1).alloc o2).alloc (.cells C 33)).alloc (.cells #[v0, v1] 22)).cell? ⟨w.heap.size + 1 + 1 + 1, 1, none⟩ = some v1 := by
  refine ⟨?_, by simp, ?_, ?_, ?_⟩
  · exact ((((Below.refl _ _).alloc (Nat.le_refl _) _).alloc (by simp) _).alloc (by simp; omega) _).alloc (by simp; omega) _
  · refine ⟨hl, Nat.le_refl _, by decide, by simp, hb, fun _ => ⟨_, _, rfl, fun i hi => ?_⟩⟩
    rw [World.cell?_alloc_past _ _ _ (by simp), World.cell?_alloc_at _ _ _ _ (by simp), hC]
    simp [show i < hs.length by omega]
  · rw [World.cell?_alloc_at _ _ _ _ (by simp)]; rfl
  · rw [World.cell?_alloc_at _ _ _ _ (by simp)]; rfl

set_option maxHeartbeats 2000000 in
theorem frame_ok (a : Option Addr) (len cap : Nat) (xs : List Int) (w : World) (h : IsB w a len cap xs) (h1 : 1 ≤ len) (h2 : len ≤ 60000) :
    Calls Try.prog 4 #[.slice a len cap] w fun e w' => ∃ g c, e = .returned (.tuple #[.slice (some ⟨g, 0, none⟩) (8 + len) c, .int .i64 0]) ∧
      w'.ownsRow w.heap.size 5 1 (.slice (some ⟨g, 0, none⟩) (8 + len) c) (8 + len) ((frameB xs).map (Value.int .u8)) ∧ Below w.heap.size w w' := by
  have h0 : ((len : Int) == 0) = false := by simp; omega
  have h60 : ¬ (60000 : Int) < (len : Int) := by omega
  have hcl := crc_lt xs
  go_enter Try.func4, Try.ntmps4
  go_wp2_with (first
    | (go_at_call 9; refine (sum_any h).mono ?_; rintro e w' ⟨rfl, rfl⟩)
    | (go_at_call 8; refine (makeHead_any _ _ _ (by omega) (by omega) (by omega) (by omega)).mono ?_; rintro e w1 ⟨rfl, o1, o2, rfl⟩))
  have F := frame_world w (.cells o1 33) (.cells o2 33) (four (len : Int) ++ four (crc xs : Int)) rfl (fun x hx => by
    rcases List.mem_append.1 hx with hx | hx
    · exact four_byte _ (by omega) (by omega) x hx
    · exact four_byte _ (by omega) (by omega) x hx) _ rfl (.slice (some ⟨w.heap.size + 1 + 1, 0, none⟩) 8 8) (.slice a len cap)
  obtain ⟨f1, f2, f3, f4, f5⟩ := F
  refine (concat2 (w.heap.size + 1 + 1 + 1) (some ⟨w.heap.size + 1 + 1, 0, none⟩) a 8 8 len cap (four (len : Int) ++ four (crc xs : Int)) xs _ f3 (h.below f1) f4 f5 (by omega) (by omega)).mono ?_
  rintro e w2 ⟨c, rfl, hown, hbel⟩
  rw [f2] at hown hbel
  go_wp2
  go_ret2
  refine ⟨w.heap.size + 4, c, rfl, ?_, f1.trans (hbel.mono (by omega))⟩
  have e : frameB xs = four (len : Int) ++ four (crc xs : Int) ++ xs := by unfold frameB; rw [h.size]
  rw [e]
  exact own_mono hown (by omega)
end Go.Proofs.Ytgammgdckneoiab
