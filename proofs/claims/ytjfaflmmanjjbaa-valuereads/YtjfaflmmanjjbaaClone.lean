/- slices.Clone of bytes, and the document's Spoil of bytes of the call's own. -/
import Derived.Test.YtjfaflmmanjjbaaApp
import Derived.Test.YtjfaflmmanjjbaaKnown
import Derived.Lib.LazyBuf
namespace Go.Proofs.Ytjfaflmmanjjbaa
open Go.RowKit
set_option maxRecDepth 100000

/-- A slice of bytes of the call's own, nil where there are none. -/
def OwnB (w : World) (base : Nat) (v : Value) (xs : List Int) : Prop :=
  w.ownsRow base 5 1 v xs.length (xs.map (Value.int .u8)) ∧ ∃ a cap, v = .slice a xs.length cap ∧ IsB w a xs.length cap xs

theorem ownB_of {w : World} {base n : Nat} {v : Value} {xs : List Int} (h : w.ownsRow base 5 1 v n (xs.map (Value.int .u8))) (hb : ∀ x ∈ xs, 0 ≤ x ∧ x < 256) : OwnB w base v xs := by
  have hl : xs.length = n := by have := h.1; simpa using this
  subst hl
  refine ⟨h, ?_⟩
  rcases h.2 with ⟨rfl, h0⟩ | ⟨g, cap, cur, rfl, _⟩
  · have : xs = [] := List.eq_nil_of_length_eq_zero h0
    subst this
    exact ⟨none, 0, rfl, ⟨rfl, Nat.le_refl _, by decide, fun _ => rfl, by simp, fun h => absurd h (by decide)⟩⟩
  · exact ⟨_, cap, rfl, isB_own h hb⟩

theorem clone_nil (w : World) : Calls Try.prog 39 #[.slice none 0 0] w fun e w' => e = .returned (.slice none 0 0) ∧ w = w' := by
  have hq := fun (w : World) (a : Option Addr) (l c : Nat) => Lib.run_eql_slice_nil (P := Try.prog) w 25 5 a l c 0 0 Try.underlying25
  go_enter Try.func39, Try.ntmps39
  go_wp2
  go_ret
  exact ⟨rfl, rfl⟩

set_option maxHeartbeats 1000000 in
theorem clone_some (ad : Addr) (len cap : Nat) (xs : List Int) (w : World) (h : IsB w (some ad) len cap xs) (hl : len ≤ 140737488355328) :
    Calls Try.prog 39 #[.slice (some ad) len cap] w fun e w' => ∃ v, e = .returned v ∧ OwnB w' w.heap.size v xs ∧ Below w.heap.size w w' := by
  have hq := fun (w : World) (a : Option Addr) (l c : Nat) => Lib.run_eql_slice_nil (P := Try.prog) w 25 5 a l c 0 0 Try.underlying25
  have hbel : Below w.heap.size w (w.alloc (.cells #[] 5)) := (Below.refl _ _).alloc (Nat.le_refl _) _
  have hown : (w.alloc (.cells #[] 5)).ownsRow w.heap.size 5 1 (.slice (some ⟨w.heap.size, 0, none⟩) 0 0) 0 (([] : List Int).map (Value.int .u8)) := World.ownsRow_lit w #[] 0 (Nat.le_refl _) (by decide) rfl
  go_enter Try.func39, Try.ntmps39
  go_wp2_with (at_builtin; refine app_bytes _ rfl _ _ rfl w.heap.size _ 0 [] rfl hown _ _ _ _ rfl (h.below hbel) (by omega) hl (by simp) ?_)
  intro v w1 hown1 hb1
  have hO := ownB_of hown1 h.byte
  clear hown1 hown
  obtain ⟨a', c', hv, _⟩ := hO.2
  rw [hv] at hO ⊢
  go_wp2
  go_ret
  exact ⟨_, rfl, hO, hbel.trans hb1⟩

theorem clone_any {a : Option Addr} {len cap : Nat} {xs : List Int} {w : World} (h : IsB w a len cap xs) (hl : len ≤ 140737488355328) :
    Calls Try.prog 39 #[.slice a len cap] w fun e w' => ∃ v, e = .returned v ∧ OwnB w' w.heap.size v xs ∧ Below w.heap.size w w' := by
  cases a with
  | none =>
    obtain ⟨rfl, rfl⟩ := h.nil' rfl
    obtain rfl : xs = [] := List.eq_nil_of_length_eq_zero h.size
    refine (clone_nil w).mono ?_
    rintro e w' ⟨rfl, rfl⟩
    exact ⟨_, rfl, ownB_of (n := 0) (World.ownsRow_nil _ _ _ _) (by simp), Below.refl _ _⟩
  | some ad => exact clone_some ad len cap xs w h hl

theorem spoil_none (a : Option Addr) (cap : Nat) (w : World) : Calls Try.prog 24 #[.slice a 0 cap] w fun e w' => e = .returned (.tuple #[]) ∧ w = w' := by
  go_enter Try.func24, Try.ntmps24
  go_wp2
  refine wp_loop_rounds 1 ?_
  rw [rounds_succ]
  go_wp2
  go_end0
  exact ⟨rfl, rfl⟩

set_option maxHeartbeats 1000000 in
theorem spoil_some (base g n cap : Nat) (xs : List Int) (w : World) (h : w.ownsRow base 5 1 (.slice (some ⟨g, 0, none⟩) n cap) n (xs.map (Value.int .u8))) (hbase : base ≤ w.heap.size) :
    Calls Try.prog 24 #[.slice (some ⟨g, 0, none⟩) n cap] w fun e w' => e = .returned (.tuple #[]) ∧ Below base w w' := by
  have hm : n ≤ 9223372036854775807 := by
    rcases h.2 with ⟨h', _⟩ | ⟨g', cap', cur, h', _, _, hnc, hcm, _⟩
    · simp at h'
    · simp at h'; unfold maxLen at hcm; omega
  have hbg := (h.lt g rfl).1
  go_enter Try.func24, Try.ntmps24
  go_wp2
  go_loopw [2] (fun i wr => ∃ (k : Nat) (ys : List Int), k ≤ n ∧ i = .int .i64 k ∧ wr.ownsRow base 5 1 (.slice (some ⟨g, 0, none⟩) n cap) n (ys.map (Value.int .u8)) ∧ Below base w wr) (fun i _ => n - (intOf i).toNat)
  case atStart => exact ⟨0, xs, Nat.zero_le _, rfl, h, Below.refl _ _⟩
  case round =>
    obtain ⟨k, ys, hk, rfl, hown, hbel⟩ := hrel
    by_cases hlt : k < n
    · have hf := hown.frozenAt k
      have hyl : ys.length = n := by have := hown.1; simpa using this
      have hc : wr.cell? ⟨g, k, none⟩ = some (.int .u8 (ys.getD k 0)) := by
        rw [hown.cellAt k (by omega)]
        simp [show k < ys.length by omega]
      have hst := hown.stored k (.int .u8 90)
      clear h
      go_wp2
      go_roundw
      case rel =>
        refine ⟨k + 1, ys.set k 90, by omega, by go_num, ?_, hbel.grown hst.2 (Nat.le_trans hbase hbel.size) (by simpa using hbg)⟩
        rw [List.map_set]
        exact hst.1
      case measure => simp [intOf]; omega
    · go_wp2
      go_end0
      exact ⟨rfl, hbel⟩

theorem spoil_own {base : Nat} {v : Value} {xs : List Int} {w : World} (h : OwnB w base v xs) (hbase : base ≤ w.heap.size) :
    Calls Try.prog 24 #[v] w fun e w' => e = .returned (.tuple #[]) ∧ Below base w w' := by
  obtain ⟨h1, a, cap, rfl, hB⟩ := h
  rcases h1.2 with ⟨h', h0⟩ | ⟨g, cap', cur, h', _⟩
  · rw [h0]
    refine (spoil_none a cap w).mono ?_
    rintro e w' ⟨rfl, rfl⟩
    exact ⟨rfl, Below.refl _ _⟩
  · simp at h'
    obtain ⟨rfl, rfl⟩ := h'
    exact spoil_some base g xs.length cap xs w h1 hbase
end Go.Proofs.Ytjfaflmmanjjbaa
