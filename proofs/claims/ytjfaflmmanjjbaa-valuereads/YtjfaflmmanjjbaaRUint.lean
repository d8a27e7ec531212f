/- The document's own Uint: a new slice with the bytes of a number. -/
import Derived.Test.YtjfaflmmanjjbaaKnown
namespace Go.Proofs.Ytjfaflmmanjjbaa
open Go.RowKit
set_option maxRecDepth 100000

set_option maxRecDepth 100000 in
set_option maxHeartbeats 1000000 in
theorem ruint_any (n : Nat) (w : World) (h1 : n < 18446744073709551616) :
    Calls Try.prog 50 #[.int .u64 (n : Int)] w fun e w' => ∃ g cap, e = .returned (.slice (some ⟨g, 0, none⟩) (usz n) cap) ∧ w'.ownsRow w.heap.size 5 1 (.slice (some ⟨g, 0, none⟩) (usz n) cap) (usz n) ((uvar n).map (Value.int .u8)) ∧ Below w.heap.size w w' := by
  obtain ⟨i0, hi, hz0, hz1, hz2⟩ := info_parts Try.info5
  go_enter Try.func50, Try.ntmps50
  go_wp2
  go_loopw [0, 3] (fun m v wr => ∃ (k f : Nat) (acc : List Int), m = .int .u64 (k : Int) ∧ k < 18446744073709551616 ∧ Hid (k < 128 ^ (f + 1)) ∧ Hid (acc.length + f = 9) ∧ Hid (acc ++ uv f k = uvar n) ∧ wr.ownsRow w.heap.size 5 1 v acc.length (acc.map (Value.int .u8)) ∧ Below w.heap.size w wr) (fun m _ _ => (intOf m).toNat)
  case atStart => exact ⟨n, 9, [], rfl, h1, Nat.lt_of_lt_of_le h1 (by decide), rfl, rfl, World.ownsRow_nil _ _ _ _, Below.refl _ _⟩
  case round =>
    obtain ⟨k, f, acc, rfl, hk, hkf, hlen, heq, hown, hbel⟩ := hrel
    by_cases hlt : 128 ≤ k
    · obtain ⟨f', rfl⟩ : ∃ f', f = f' + 1 := by
        cases f with
        | zero => have := hkf.out; simp at this; omega
        | succ f => exact ⟨f, rfl⟩
      have hl9 := hlen.out
      have hu : Hid (uv (f' + 1) k = ((k : Int) % 128 + 128) :: uv f' (k / 128)) := by
        show _ = _; rw [uv, if_neg (by omega)]; congr 1
      have kl := isB_lit wr #[.int .u8 ((k : Int) % 128 + 128)] [(k : Int) % 128 + 128] 1 rfl (by decide) rfl (by intro x hx; simp at hx; omega) (0, 0)
      go_wp2_with (at_builtin; refine wpList_append_own _ rfl _ _ 25 rfl w.heap.size 5 i0 (.int .u8 0) 1 1 Try.underlying25 hi hz0 hz1 hz2 rfl (by decide) _ _ _ rfl (hown.alloc _) ⟨wr.heap.size, 0, none⟩ 1 1 [.int .u8 ((k : Int) % 128 + 128)] rfl rfl (kl.cellsAt _ rfl) kl.one (by unfold maxLen; omega) (by omega) (by have := hbel.size; simp; omega) ?_)
      intro v' w1 hown' hgrow _
      have hbl := (hbel.alloc hbel.size (.cells #[.int .u8 ((k : Int) % 128 + 128)] 5)).grown hgrow (by have := hbel.size; simp; omega) (fun j hj => (hown.lt j hj).1)
      clear hown hbel kl hgrow
      go_wp2
      go_roundw
      case rel =>
        refine ⟨k / 128, f', acc ++ [(k : Int) % 128 + 128], by go_num, by omega, ?_, ?_, ?_, ?_, hbl⟩
        · have := hkf.out
          show _ < _
          rw [Nat.pow_succ] at this
          exact Nat.div_lt_of_lt_mul (by rw [Nat.mul_comm]; exact this)
        · show _ = _; simp; omega
        · show _ = _; rw [← heq.out, hu.out]; simp
        · rw [List.map_append]; simpa using hown'
      case measure => simp [intOf]; omega
    · have hu : Hid (acc ++ [(k : Int)] = uvar n) := by
        show _ = _; rw [← heq.out]
        congr 1
        cases f with
        | zero => rfl
        | succ f => rw [uv, if_pos (by omega)]
      have hl9 := hlen.out
      have kl := isB_lit wr #[.int .u8 (k : Int)] [(k : Int)] 1 rfl (by decide) rfl (by intro x hx; simp at hx; omega) (0, 0)
      go_wp2_with (at_builtin; refine wpList_append_own _ rfl _ _ 25 rfl w.heap.size 5 i0 (.int .u8 0) 1 1 Try.underlying25 hi hz0 hz1 hz2 rfl (by decide) _ _ _ rfl (hown.alloc _) ⟨wr.heap.size, 0, none⟩ 1 1 [.int .u8 (k : Int)] rfl rfl (kl.cellsAt _ rfl) kl.one (by unfold maxLen; omega) (by omega) (by have := hbel.size; simp; omega) ?_)
      intro v' w1 hown' hgrow _
      have hbl := (hbel.alloc hbel.size (.cells #[.int .u8 (k : Int)] 5)).grown hgrow (by have := hbel.size; simp; omega) (fun j hj => (hown.lt j hj).1)
      clear hown hbel kl hgrow
      have hle : acc.length + 1 = usz n := by rw [← uvar_length n h1, ← hu.out]; simp
      have hown2 : w1.ownsRow w.heap.size 5 1 v' (usz n) ((uvar n).map (Value.int .u8)) := by
        rw [← hle, ← hu.out, List.map_append]; simpa using hown'
      have hsh : ∃ g cap, v' = .slice (some ⟨g, 0, none⟩) (usz n) cap := by
        rcases hown2.2 with ⟨_, h0⟩ | ⟨g, cap, cur, hv, _⟩
        · omega
        · exact ⟨g, cap, hv⟩
      obtain ⟨g, cap, hv⟩ := hsh
      rw [hv] at hown2 ⊢
      clear hown' hle
      go_wp2
      go_ret
      exact ⟨g, cap, rfl, hown2, hbl⟩
end Go.Proofs.Ytjfaflmmanjjbaa
