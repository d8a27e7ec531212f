/- Bytes read: a float, a copy. -/
import Derived.Test.YtkpngpongbpfgaaRPutN
import Derived.Lib.LazyBuf
namespace Go.Proofs.Ytkpngpongbpfgaa
open Go.RowKit
set_option maxRecDepth 100000
theorem clone_nil (w : World) : Calls Try.prog 41 #[.slice none 0 0] w fun e w' => e = .returned (.slice none 0 0) ∧ w = w' := by
  have hq := fun (w : World) (a : Option Addr) (l c : Nat) => Lib.run_eql_slice_nil (P := Try.prog) w 22 5 a l c 0 0 Try.underlying22
  go_enter Try.func41, Try.ntmps41
  go_wp2
  go_ret
  exact ⟨rfl, rfl⟩
set_option maxHeartbeats 1000000 in
theorem clone_some (ad : Addr) (len cap : Nat) (xs : List Int) (w : World) (h : IsB w (some ad) len cap xs) (hl : len ≤ 140737488355328) :
    Calls Try.prog 41 #[.slice (some ad) len cap] w fun e w' => ∃ v, e = .returned v ∧ OwnB w' w.heap.size v xs ∧ Below w.heap.size w w' := by
  have hq := fun (w : World) (a : Option Addr) (l c : Nat) => Lib.run_eql_slice_nil (P := Try.prog) w 22 5 a l c 0 0 Try.underlying22
  have hbel : Below w.heap.size w (w.alloc (.cells #[] 5)) := (Below.refl _ _).alloc (Nat.le_refl _) _
  have hown : (w.alloc (.cells #[] 5)).ownsRow w.heap.size 5 1 (.slice (some ⟨w.heap.size, 0, none⟩) 0 0) 0 (([] : List Int).map (Value.int .u8)) := World.ownsRow_lit w #[] 0 (Nat.le_refl _) (by decide) rfl
  go_enter Try.func41, Try.ntmps41
  go_wp2_with (at_builtin; refine app_bytes _ rfl _ _ rfl w.heap.size _ 0 [] rfl hown _ _ _ _ rfl (h.below hbel) (by omega) hl (by simp) ?_)
  intro v w1 hown1 hb1
  have hO := ownB_of hown1 h.byte
  clear hown1 hown
  obtain ⟨a', c', hv, _⟩ := hO.2
  rw [hv] at hO ⊢
  go_wp2
  go_ret
  exact ⟨_, rfl, hO, hbel.trans hb1⟩
theorem clone_any {a : Option Addr} {len cap : Nat} {xs : List Int} {w : World} (h : IsB w a len cap xs) (hl : len ≤ 140737488355328) :
    Calls Try.prog 41 #[.slice a len cap] w fun e w' => ∃ v, e = .returned v ∧ OwnB w' w.heap.size v xs ∧ Below w.heap.size w w' := by
  cases a with
  | none =>
    obtain ⟨rfl, rfl⟩ := h.nil' rfl
    obtain rfl : xs = [] := List.eq_nil_of_length_eq_zero h.size
    refine (clone_nil w).mono ?_
    rintro e w' ⟨rfl, rfl⟩
    exact ⟨_, rfl, ownB_of (n := 0) (World.ownsRow_nil _ _ _ _) (by simp), Below.refl _ _⟩
  | some ad => exact clone_some ad len cap xs w h hl
set_option maxHeartbeats 2000000 in
theorem readFloat_any {a : Option Addr} {len cap : Nat} {xs : List Int} {w : World} (h : IsB w a len cap xs) (h8 : 8 ≤ len) :
    Calls Try.prog 70 #[.slice a len cap] w fun e w' => e = .returned (.float .f64 (val8 (xs.take 8))) ∧ w = w' := by
  have hsz := h.size
  have h64 : len < 9223372036854775808 := by have h1 := h.room; have h2 := h.most; unfold maxLen at h2; omega
  have hff := run_f64from
  go_enter Try.func70, Try.ntmps70
  go_wp2
  go_loop [5, 3] (fun i s => ∃ k : Nat, k ≤ 8 ∧ i = .int .i64 k ∧ s = .int .u64 (val8 (xs.take k) : Int)) (fun i s => 8 - (intOf i).toNat)
  case atStart => exact ⟨0, Nat.zero_le _, rfl, rfl⟩
  case round =>
    obtain ⟨k, hk, rfl, rfl⟩ := hrel
    by_cases hlt : k < 8
    · obtain ⟨b, off, rfl, hc⟩ := h.cells (by omega)
      have hkl : (k : Int) < (len : Int) := by omega
      have hck := hc k (by omega)
      obtain ⟨c, hc8, hcx, ht⟩ := byteAt xs h.byte k (by omega)
      rw [hcx] at hck
      have hV : val8 (xs.take k) < 256 ^ 7 := take_lt xs h.byte k 7 (by omega)
      have hn : Hid (val8 (xs.take (k + 1)) = val8 (xs.take k) * 256 + c) := val8_take xs k c ht.out
      have ho := or64 (val8 (xs.take k)) c hV hc8
      clear hc hcx ht
      go_wp2
      go_round
      case rel => exact ⟨k + 1, by omega, by go_num, by rw [hn.out]; simp⟩
      case measure => simp [intOf]; omega
    · obtain rfl : k = 8 := by omega
      go_wp2
      go_ret
      exact ⟨by simp, rfl⟩
end Go.Proofs.Ytkpngpongbpfgaa
