/- Slices of bytes in memory: what is read stays what it is. -/
import Derived.Test.YtjfaflmmanjjbaaSum
import Derived.Test.YtjfaflmmanjjbaaUint
namespace Go.Proofs.Ytjfaflmmanjjbaa
open Go.RowKit
set_option maxRecDepth 100000

theorem IsB.cellsAt {w : World} {a : Option Addr} {len cap : Nat} {xs : List Int} (h : IsB w a len cap xs) :
    ∀ ad, a = some ad → ∀ j u, (xs.map (Value.int .u8))[j]? = some u → w.cell? (ad.add j) = some u := by
  intro ad ha j u hj
  have hjl : j < xs.length := by
    have := (List.getElem?_eq_some_iff.1 hj).1
    simpa using this
  obtain ⟨b, off, hb, hc⟩ := h.cells (by have := h.size; omega)
  rw [ha] at hb
  obtain rfl := Option.some.inj hb
  have e := hc j (by have := h.size; omega)
  rw [show (⟨b, off, none⟩ : Addr).add j = ⟨b, off + j, none⟩ by simp [Addr.add], e]
  rw [List.getElem?_map, List.getElem?_eq_getElem hjl] at hj
  simp at hj
  rw [← hj]
  simp [hjl]
theorem IsB.one {w : World} {a : Option Addr} {len cap : Nat} {xs : List Int} (_ : IsB w a len cap xs) : ∀ u ∈ xs.map (Value.int .u8), u.oneCell' = true := by
  intro u hu
  obtain ⟨x, _, rfl⟩ := List.mem_map.1 hu
  rfl
theorem IsB.nil' {w : World} {a : Option Addr} {len cap : Nat} {xs : List Int} (h : IsB w a len cap xs) : a = none → len = 0 ∧ cap = 0 := by
  intro ha
  have := h.nil0 ha
  have := h.room
  omega
theorem IsB.lenMap {w : World} {a : Option Addr} {len cap : Nat} {xs : List Int} (h : IsB w a len cap xs) : (xs.map (Value.int .u8)).length = len * 1 := by
  rw [List.length_map, h.size, Nat.mul_one]
/-- Old memory that is as it was. -/
theorem IsB.below {w w' : World} {a : Option Addr} {len cap : Nat} {xs : List Int} (h : IsB w a len cap xs) (hb : Below w.heap.size w w') : IsB w' a len cap xs :=
  ⟨h.size, h.room, h.most, h.nil0, h.byte, fun h0 => by
    obtain ⟨b, off, ha, hc⟩ := h.cells h0
    exact ⟨b, off, ha, fun i hi => (hb.cell (block_lt_of_cell (hc i hi))).trans (hc i hi)⟩⟩
theorem IsB.block {w : World} {len cap b off : Nat} {sp : Option Nat} {xs : List Int} (h : IsB w (some ⟨b, off, sp⟩) len cap xs) (h0 : 0 < len) : b < w.heap.size := by
  obtain ⟨b', off', ha, hc⟩ := h.cells h0
  have := block_lt_of_cell (hc 0 h0)
  simp at ha
  simp at this
  omega
/-- What the call owns is such a slice. -/
theorem isB_own {w : World} {base n cap : Nat} {g : Nat} {xs : List Int} (h : w.ownsRow base 5 1 (.slice (some ⟨g, 0, none⟩) n cap) n (xs.map (Value.int .u8))) (hb : ∀ x ∈ xs, 0 ≤ x ∧ x < 256) : IsB w (some ⟨g, 0, none⟩) n cap xs := by
  have hl : xs.length = n := by have := h.1; simpa using this
  have h2 := h.2
  refine ⟨hl, ?_, ?_, by simp, hb, fun _ => ⟨g, 0, rfl, fun i hi => ?_⟩⟩
  · rcases h2 with ⟨h', _⟩ | ⟨g', cap', cur, h', _, _, hnc, _⟩
    · simp at h'
    · simp at h'; omega
  · rcases h2 with ⟨h', _⟩ | ⟨g', cap', cur, h', _, _, _, hcm, _⟩
    · simp at h'
    · simp at h'; omega
  · have := h.cellAt i (by omega)
    rw [Nat.zero_add, this, List.getElem?_map, List.getElem?_eq_getElem (by omega)]
    simp [show i < xs.length by omega]
/-- string(b). -/
theorem IsB.str {w : World} {a : Option Addr} {len cap : Nat} {xs : List Int} (h : IsB w a len cap xs) : (convert 25 9 (.slice a len cap)).run Try.prog w = .ok (.string (strOfNums xs)) w := by
  cases a with
  | none =>
    obtain ⟨rfl, rfl⟩ := h.nil' rfl
    obtain rfl : xs = [] := List.eq_nil_of_length_eq_zero h.size
    exact run_convert_bytes_nil w 25 5 Try.underlying25 Try.underlying5 0 0 9 Try.underlying9
  | some ad =>
    by_cases h0 : 0 < len
    · obtain ⟨b, off, hb, hc⟩ := h.cells h0
      obtain rfl := Option.some.inj hb
      exact run_convert_bytes_arg w 25 5 Try.underlying25 Try.underlying5 b off len cap xs h.size hc 9 Try.underlying9
    · obtain rfl : len = 0 := by omega
      obtain rfl : xs = [] := List.eq_nil_of_length_eq_zero h.size
      rw [run_convert_bytes_string w 25 9 5 _ 0 cap Try.underlying25 Try.underlying5 Try.underlying9]
      simp [Conv.bytesToString]
      have hl : (loadCells ad 0).run Try.prog w = .ok #[] w := run_loadCells_list (P := Try.prog) w ad [] (fun j v hj => by simp at hj)
      rw [hl]
      simp [strOfNums]
      rfl
end Go.Proofs.Ytjfaflmmanjjbaa
