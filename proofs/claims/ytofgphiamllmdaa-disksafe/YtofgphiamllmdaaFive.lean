/- Writes of one byte; rows of bytes behind calls on a device. -/
import Derived.Test.YtofgphiamllmdaaKnown
import Derived.Test.YtofgphiamllmdaaMore
namespace Go.Proofs.Ytofgphiamllmdaa
open Go.RowKit

/-- The first sectors, all of one byte. -/
def ws5 (c : Int) (n : Nat) : List (Int × List Int) := (List.range n).map fun (i : Nat) => ((i : Int), sv 128 c)
theorem ws5_len (c : Int) (n : Nat) : (ws5 c n).length = n := by simp [ws5]
theorem ch_rep (c : Int) (m k : Nat) (h : k < m) : ch (sv (128 * m) c) k = sv 128 c := by
  unfold ch sv
  rw [List.drop_replicate, List.take_replicate]
  congr 1
  omega
theorem wsP_rep (c : Int) (m n : Nat) (h : n ≤ m) : wsP 0 (sv (128 * m) c) ((List.finRange m).take n) = ws5 c n := by
  unfold wsP ws5
  apply List.ext_getElem
  · simp
    omega
  · intro i h1 h2
    simp only [List.length_map, List.length_zipIdx, List.length_take, List.length_finRange] at h1
    simp only [List.getElem_map, List.getElem_zipIdx, List.getElem_take, List.getElem_finRange, List.getElem_range]
    rw [ch_rep c m _ (by simp; omega)]
    simp
theorem cells_ty {c c' : Array Value} {t t' : Nat} (h : some (Obj.cells c t (0, 0)) = some (Obj.cells c' t' (0, 0))) : t = t' := by
  injection h with h
  injection h
theorem kept_all (L : List (Int × List Int)) : keptL L (List.replicate L.length true) = L := by
  unfold keptL
  rw [List.filter_eq_self.2]
  · simp
  · intro q hq
    have := List.snd_lt_of_mem_zipIdx hq
    simp [show q.2 < L.length by omega]
theorem cat5 (n : Nat) (h : n ≤ 8) : catS (appl (fun _ => z128) (ws5 5 n)) 0 16 = sv (128 * n) 5 ++ sv (128 * (16 - n)) 0 := by
  have : n = 0 ∨ n = 1 ∨ n = 2 ∨ n = 3 ∨ n = 4 ∨ n = 5 ∨ n = 6 ∨ n = 7 ∨ n = 8 := by omega
  rcases this with rfl | rfl | rfl | rfl | rfl | rfl | rfl | rfl | rfl <;> decide +kernel

theorem full_row (w : World) (k : Nat) (c : Int) (hk : k ≤ 1000000) : Calls Try.prog 10 #[.int .i64 (k : Int), .int .u8 c] w fun e w' => ∃ b, e = .returned (.slice (some ⟨b, 0, none⟩) (128 * k) (128 * k)) ∧ w.heap.size ≤ b ∧ Row8 w' b (sv (128 * k) c) ∧ Below w.heap.size w w' := by
  refine (full_any w k c hk).mono ?_
  rintro e w' ⟨rfl, hb, hg⟩
  rw [Nat.mul_comm k 128] at hb ⊢
  exact ⟨_, rfl, Nat.le_refl _, hb, below_of hg⟩
theorem sv_byte (n : Nat) (c : Int) (h0 : 0 ≤ c) (h1 : c < 256) : ∀ x ∈ sv n c, 0 ≤ x ∧ x < 256 := fun x hx => by
  obtain ⟨_, rfl⟩ := List.mem_replicate.1 hx
  exact ⟨h0, h1⟩
section
variable {w w' : World} {n₀ p bs bn : Nat} {pv pv' : Value} {size : Int} {G0 G1 : Int → List Int} {L : List (Int × List Int)} {left : Int} {dead : Bool}
theorem Row8.ne {b : Nat} {xs : List Int} (h : Row8 w b xs) (D : Dev w n₀ p bs bn pv size G0 G1 L left dead) : b ≠ p ∧ b ≠ bs ∧ b ≠ bn ∧ pv.ownBlock ≠ some b := by
  unfold Row8 at h
  refine ⟨?_, ?_, ?_, ?_⟩
  · rintro rfl
    rw [D.obj] at h
    exact absurd (cells_ty h) (by decide)
  · rintro rfl
    obtain ⟨f, ⟨_, _, hh, _⟩, _⟩ := D.safe
    rw [hh] at h
    cases h
  · rintro rfl
    obtain ⟨f, ⟨_, _, hh, _⟩, _⟩ := D.now
    rw [hh] at h
    cases h
  · intro e
    obtain ⟨_, cur, hh⟩ := own_block D.pend e
    rw [hh] at h
    exact absurd (cells_ty h) (by decide)
theorem Row8.fr {b : Nat} {xs : List Int} (h : Row8 w b xs) (D : Dev w n₀ p bs bn pv size G0 G1 L left dead) (F : Fr p bs bn w pv w' pv') : Row8 w' b xs := by
  obtain ⟨h1, h2, h3, h4⟩ := h.ne D
  exact (F.keep b (lt_of_block h) h1 h2 h3 h4).1.trans h
/-- A write of some sectors of one byte from the first one on. -/
theorem write_rep (h : Dev w n₀ p bs bn pv size G0 G1 [] left dead) (hs : size ≤ 4096) (m : Nat) (hm : 0 < m) (hms : (m : Int) ≤ size) (c : Int) (hc0 : 0 ≤ c) (hc1 : c < 256) {b : Nat} (hb : Row8 w b (sv (128 * m) c)) (hl0 : 0 ≤ left) (hl1 : left ≤ 9223372036854775807) :
    Calls Try.prog 9 #[.pointer (some ⟨p, 0, none⟩), .int .i64 0, .slice (some ⟨b, 0, none⟩) (128 * m) (128 * m)] w fun e w' =>
      (e = .returned (.int .i64 0) ∧ dead = false ∧ (left = 0 ∨ (m : Int) < left) ∧ ∃ pv', Dev w' n₀ p bs bn pv' size G0 (appl G1 (ws5 c m)) (ws5 c m) (max 0 (left - m)) false ∧ Fr p bs bn w pv w' pv') ∨
      (e = .returned (.int .i64 14) ∧ ∃ j, j < m ∧ ((dead = true ∧ j = 0) ∨ (dead = false ∧ left = j + 1)) ∧ ∃ pv', Dev w' n₀ p bs bn pv' size G0 (appl G1 (ws5 c j)) (ws5 c j) (max 0 (left - j)) true ∧ Fr p bs bn w pv w' pv') := by
  obtain ⟨n1, n2, n3, n4⟩ := hb.ne h
  have hW := Write_some h hs 0 (by decide) b 0 (128 * m) m (Nat.le_refl _) (by unfold maxLen; omega) hm (by omega) (sv (128 * m) c) (by unfold sv; rw [List.length_replicate]) (hb.bytes (sv_byte _ c hc0 hc1)) (lt_of_block hb) n1 n2 n3 n4 hl0 hl1 (by simp)
  refine Calls.mono hW ?_
  rintro e w' (⟨rfl, h1, h2, pv', D3, F3⟩ | ⟨rfl, j, hj, h, pv', D3, F3⟩)
  · refine .inl ⟨rfl, h1, h2, pv', ?_, F3⟩
    have e := wsP_rep c m m (Nat.le_refl _)
    rw [List.take_of_length_le (by simp)] at e
    rw [e, List.nil_append, List.length_finRange] at D3
    exact D3
  · refine .inr ⟨rfl, j, hj, h, pv', ?_, F3⟩
    rw [wsP_rep c m j (by omega), List.nil_append, List.length_take, List.length_finRange, Nat.min_eq_left (by omega)] at D3
    exact D3
end
end Go.Proofs.Ytofgphiamllmdaa
