/- Disk.Write beyond the device; a write of some sectors of one byte at any place. -/
import Derived.Test.YtofgphiamllmdaaFive
namespace Go.Proofs.Ytofgphiamllmdaa
open Go.RowKit

section
variable {w : World} {n₀ p bs bn : Nat} {pv : Value} {size : Int} {G0 G1 : Int → List Int} {L : List (Int × List Int)} {left : Int} {dead : Bool}
set_option maxRecDepth 100000 in
set_option maxHeartbeats 1000000 in
theorem Write_far (h : Dev w n₀ p bs bn pv size G0 G1 L left dead) (hs0 : 0 ≤ size) (hs1 : size ≤ 4096) (at' : Int) (ha1 : at' ≤ 9223372036854775807) (sa : Option Addr) (cap m : Nat) (hm : m ≤ 1000) (hm0 : 0 < m) (hout : ¬ (0 ≤ at' ∧ at' + m ≤ size)) :
    Calls Try.prog 9 #[.pointer (some ⟨p, 0, none⟩), .int .i64 at', .slice sa (128 * m) cap] w fun e w' => e = .returned (.int .i64 13) ∧ Below w.heap.size w w' := by
  have hB : ∀ o1 o2 o3, ∀ i, i < w.heap.size → (((w.alloc o1).alloc o2).alloc o3).heap[i]? = w.heap[i]? := fun o1 o2 o3 i hi => (Below.heap_alloc _ _ _ (by simp <;> omega)).trans ((Below.heap_alloc _ _ _ (by simp <;> omega)).trans (Below.heap_alloc _ _ _ hi))
  have hD := h.same (hB (.cells #[.pointer (some ⟨p, 0, none⟩)] 24) (.cells #[.int .i64 at'] 3) (.cells #[.int .i64 0] 25))
  have hw1 : IntKind.i64.wrap (128 * (m : Int) + 128) = 128 * (m : Int) + 128 := by rw [IntKind.wrap_i64]; omega
  have hw2 : IntKind.i64.wrap (128 * (m : Int) + 127) = 128 * (m : Int) + 127 := by rw [IntKind.wrap_i64]; omega
  have hbel : Below w.heap.size w (((w.alloc (.cells #[.pointer (some ⟨p, 0, none⟩)] 24)).alloc (.cells #[.int .i64 at'] 3)).alloc (.cells #[.int .i64 0] 25)) := (((Below.refl _ w).alloc (Nat.le_refl _) _).alloc (by simp) _).alloc (by simp <;> omega) _
  by_cases hn : at' < 0
  · clear hD hB hout
    go_enter Try.func9, Try.ntmps9
    go_wp2_with fail
    exact bodyPost_ret (v := .int .i64 13) (by simp [results, Try.results9, go_sem]) rfl ⟨rfl, ((box_below w _).alloc (by simp) _).alloc (by simp <;> omega) _⟩
  · have h0 : 0 ≤ at' := by omega
    have hgt : max 0 (size - at') < (128 * (m : Int) + 128 - 1) / 128 := by omega
    clear hout hn
    go_enter Try.func9, Try.ntmps9
    go_wp2_with fail
    refine (from_any hD (by omega) hs1 at' h0 (by omega)).mono ?_
    rintro e w' ⟨rfl, rfl⟩
    clear hD hB h hbel
    go_wp2_with fail
    exact bodyPost_ret (v := .int .i64 13) (by simp [results, Try.results9, go_sem]) rfl ⟨rfl, ((box_below w _).alloc (by simp) _).alloc (by simp <;> omega) _⟩
end

/-- Some sectors of one byte, from a place on. -/
def wsA (at' c : Int) (m : Nat) : List (Int × List Int) := (List.range m).map fun (i : Nat) => (at' + (i : Int), sv 128 c)
theorem wsA_len (at' c : Int) (m : Nat) : (wsA at' c m).length = m := by simp [wsA]
theorem wsP_A (at' c : Int) (m : Nat) : wsP at' (sv (128 * m) c) (List.finRange m) = wsA at' c m := by
  unfold wsP wsA
  apply List.ext_getElem
  · simp
  · intro i h1 h2
    simp only [List.length_map, List.length_zipIdx, List.length_finRange] at h1
    simp only [List.getElem_map, List.getElem_zipIdx, List.getElem_finRange, List.getElem_range]
    rw [ch_rep c m _ (by simp; omega)]
    simp
/-- What a write of some sectors of one byte does to a device of eight. -/
def actW (at' c : Int) (m : Nat) : List (Int × List Int) := if 0 ≤ at' ∧ at' + m ≤ 8 then wsA at' c m else []
theorem actW_len (at' c : Int) (m : Nat) : (actW at' c m).length ≤ m := by
  unfold actW
  split
  · rw [wsA_len]; exact Nat.le_refl _
  · simp
section
variable {w : World} {n₀ p bs bn : Nat} {pv : Value} {G0 G1 : Int → List Int} {L : List (Int × List Int)}
theorem Fr.of_below {w' : World} (h : Below w.heap.size w w') : Fr p bs bn w pv w' pv := ⟨h.os, h.tape, h.output, h.size, fun i hi _ _ _ h4 => ⟨h.block i hi, h4⟩⟩
theorem act_write (h : Dev w n₀ p bs bn pv 8 G0 G1 L 0 false) (at' c : Int) (ha1 : at' ≤ 9223372036854775807) (m : Nat) (hm0 : 0 < m) (hm : m ≤ 1000) (hc0 : 0 ≤ c) (hc1 : c < 256) {b : Nat} (hb : Row8 w b (sv (128 * m) c)) (hL : L.length ≤ 999990000) :
    Calls Try.prog 9 #[.pointer (some ⟨p, 0, none⟩), .int .i64 at', .slice (some ⟨b, 0, none⟩) (128 * m) (128 * m)] w fun e w' =>
      e = .returned (.int .i64 (if 0 ≤ at' ∧ at' + m ≤ 8 then 0 else 13)) ∧ ∃ pv', Dev w' n₀ p bs bn pv' 8 G0 (appl G1 (actW at' c m)) (L ++ actW at' c m) 0 false ∧ Fr p bs bn w pv w' pv' := by
  by_cases hin : 0 ≤ at' ∧ at' + m ≤ 8
  · obtain ⟨n1, n2, n3, n4⟩ := hb.ne h
    have hW := Write_some h (by decide) at' hin.1 b 0 (128 * m) m (Nat.le_refl _) (by unfold maxLen; omega) hm0 hin.2 (sv (128 * m) c) (by unfold sv; rw [List.length_replicate]) (hb.bytes (sv_byte _ c hc0 hc1)) (lt_of_block hb) n1 n2 n3 n4 (by decide) (by decide) hL
    unfold actW
    simp only [if_pos hin]
    refine Calls.mono hW ?_
    rintro e w' (⟨rfl, _, _, pv', D3, F3⟩ | ⟨_, j, _, hj, _⟩)
    · refine ⟨rfl, pv', ?_, F3⟩
      rw [wsP_A, List.length_finRange] at D3
      have e : max 0 ((0 : Int) - m) = 0 := by omega
      rw [e] at D3
      exact D3
    · exfalso
      rcases hj with ⟨hj, _⟩ | ⟨_, hj⟩
      · cases hj
      · omega
  · unfold actW
    simp only [if_neg hin]
    refine Calls.mono (Write_far h (by decide) (by decide) at' ha1 _ _ m hm hm0 hin) ?_
    rintro e w' ⟨rfl, hB⟩
    exact ⟨rfl, pv, by simpa [appl] using h.same (fun i hi => hB.block i hi), Fr.of_below hB⟩
end
end Go.Proofs.Ytofgphiamllmdaa
