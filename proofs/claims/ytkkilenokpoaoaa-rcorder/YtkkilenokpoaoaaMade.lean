/- counter: an object made. -/
import Derived.Test.YtkkilenokpoaoaaRep
namespace Go.Proofs.Ytkkilenokpoaoaa
open Go.RowKit
set_option maxRecDepth 100000
theorem Try.results22 : Try.f22.results = #[.cell 2 38] := by kernel_rfl
theorem isB_nil (w : World) : IsB w none 0 0 [] := ⟨rfl, Nat.le_refl _, by decide, fun _ => rfl, by simp, fun h => absurd h (by decide)⟩
theorem isV_lit (w : World) (k n : Int) (hk : I64 k) (hn : I64 n) : IsV (w.alloc (.cells #[.int .i64 k, .int .i64 n] 60)) (some ⟨w.heap.size, 0, none⟩) 1 1 [(k, n)] := by
  refine ⟨rfl, Nat.le_refl _, by decide, by simp, ?_, fun _ => ⟨_, _, rfl, fun i hi => ?_⟩⟩
  · intro v hv
    simp only [List.mem_cons, List.not_mem_nil, or_false] at hv
    subst hv
    exact ⟨hk, hn⟩
  · obtain rfl : i = 0 := by omega
    simp
set_option maxHeartbeats 1000000 in
theorem counter_any (n : Int) (w : World) (hn : I64 n) :
    Calls Try.prog 22 #[.int .i64 n] w fun e w' => ∃ a, e = .returned (.agg #[.int .i64 13, .slice a 1 1, .slice none 0 0]) ∧ IsO w' 13 a 1 1 none 0 0 [(3, n)] [] ∧ Below w.heap.size w w' := by
  go_enter Try.func22, Try.ntmps22
  go_wp2_with fail
  have E1 := old1 (new1 w (objB 13 (.slice (some ⟨w.heap.size + 1, 0, none⟩) 1 1) (.slice none 0 0))) (.cells #[.int .i64 3, .int .i64 n] 60)
  have hV := isV_lit (w.alloc (objB 13 (.slice (some ⟨w.heap.size + 1, 0, none⟩) 1 1) (.slice none 0 0))) 3 n (by unfold I64; omega) hn
  have hsz : (w.alloc (objB 13 (.slice (some ⟨w.heap.size + 1, 0, none⟩) 1 1) (.slice none 0 0))).heap.size = w.heap.size + 1 := by simp
  rw [hsz] at hV
  obtain ⟨z0, z1, z2, zf⟩ := obj_cells E1
  exact bodyPost_ret (v := .agg #[.int .i64 13, .slice (some ⟨w.heap.size + 1, 0, none⟩) 1 1, .slice none 0 0]) (results_cell Try.results22 rfl (load38 z0 z1 z2)) rfl ⟨_, rfl, ⟨by decide, hV, isB_nil _⟩, below_size box_below box_below.size box_below⟩
/-- A slice of numbers that is only read. -/
structure IsI (w : World) (a : Option Addr) (len : Nat) (zs : List Int) : Prop where
  size : zs.length = len
  most : len ≤ maxLen
  wf : ∀ z ∈ zs, I64 z
  cells : 0 < len → ∃ b off, a = some ⟨b, off, none⟩ ∧ ∀ i, i < len → w.cell? ⟨b, off + i, none⟩ = some (.int .i64 (zs.getD i 0))
theorem IsI.below {w w' : World} {a : Option Addr} {len : Nat} {zs : List Int} (h : IsI w a len zs) (hb : Below w.heap.size w w') : IsI w' a len zs :=
  ⟨h.size, h.most, h.wf, fun h0 => by
    obtain ⟨b, off, ha, hc⟩ := h.cells h0
    exact ⟨b, off, ha, fun i hi => (hb.cell (lt_of_cell (hc i hi))).trans (hc i hi)⟩⟩
theorem IsI.at_ {w : World} {a : Option Addr} {len : Nat} {zs : List Int} (h : IsI w a len zs) (k : Nat) (hk : k < len) : ∃ b off x, a = some ⟨b, off, none⟩ ∧ b < w.heap.size ∧ w.cell? ⟨b, off + k, none⟩ = some (.int .i64 x) ∧ Hid (zs[k]? = some x) ∧ I64 x := by
  obtain ⟨b, off, ha, hc⟩ := h.cells (by omega)
  have hl : k < zs.length := by have := h.size; omega
  have e : zs[k]? = some (zs.getD k 0) := by simp [hl]
  exact ⟨b, off, _, ha, lt_of_cell (hc k hk), hc k hk, e, h.wf _ (List.mem_of_getElem? e)⟩
end Go.Proofs.Ytkkilenokpoaoaa
