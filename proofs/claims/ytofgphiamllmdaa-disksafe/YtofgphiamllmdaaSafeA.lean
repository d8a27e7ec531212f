/- What DiskSafe asks for: a row of bools; what a crash leaves; a sector's bytes. -/
import Derived.Test.YtofgphiamllmdaaBeside
import Derived.Test.YtofgphiamllmdaaAnyS
namespace Go.Proofs.Ytofgphiamllmdaa
open Go.RowKit

def bvals (f : Nat → Bool) : Array Value := ((List.range 2048).map fun i => Value.bool (f i)).toArray
/-- A row of 2048 bools. -/
def BRow (w : World) (b : Nat) (f : Nat → Bool) : Prop := w.heap[b]? = some (.cells (bvals f) 4 (0, 0))
theorem bvals_get (f : Nat → Bool) (k : Nat) (h : k < 2048) : (bvals f)[k]? = some (.bool (f k)) := by
  unfold bvals
  rw [List.getElem?_toArray, List.getElem?_map, List.getElem?_range h]
  rfl
theorem bvals_set (f : Nat → Bool) (k : Nat) : (bvals f).setIfInBounds k (.bool true) = bvals (fun i => if i = k then true else f i) := by
  unfold bvals
  rw [List.setIfInBounds_toArray]
  refine congrArg List.toArray ?_
  apply List.ext_getElem
  · simp
  · intro i h1 h2
    rw [List.getElem_set]
    by_cases e : k = i
    · subst e; simp
    · simp [e, Ne.symm e]
theorem made_bools : madeCells #[Value.bool false] 2048 = bvals (fun _ => false) := by
  unfold madeCells bvals
  apply Array.ext
  · rw [Array.size_map, Array.size_range, List.size_toArray, List.length_map, List.length_range]
  · intro i h1 h2
    simp [Nat.mod_one]
theorem BRow.cell {w : World} {b : Nat} {f : Nat → Bool} (h : BRow w b f) (k : Nat) (hk : k < 2048) : w.cell? ⟨b, k, none⟩ = some (.bool (f k)) := by
  rw [cell_of_row w b k _ _ _ h, bvals_get f k hk]
theorem BRow.frozen {w : World} {b : Nat} {f : Nat → Bool} (h : BRow w b f) (k : Nat) : w.frozen? ⟨b, k, none⟩ = false := frozen_of_row w b k _ _ h
theorem BRow.set {w : World} {b : Nat} {f : Nat → Bool} (h : BRow w b f) (k : Nat) : BRow (w.setCell ⟨b, k, none⟩ (.bool true)) b (fun i => if i = k then true else f i) := by
  unfold BRow at h ⊢
  rw [heap_setCell_same w b k _ _ _ h, bvals_set]
theorem BRow.below {w w' : World} {b : Nat} {f : Nat → Bool} (h : BRow w b f) (hb : Below w.heap.size w w') : BRow w' b f := (hb.block _ (lt_of_block h)).trans h
section
variable {w w' : World} {n₀ p bs bn : Nat} {pv pv' : Value} {size : Int} {G0 G1 : Int → List Int} {L : List (Int × List Int)} {left : Int} {dead : Bool}
theorem BRow.ne {b : Nat} {f : Nat → Bool} (h : BRow w b f) (D : Dev w n₀ p bs bn pv size G0 G1 L left dead) : b ≠ p ∧ b ≠ bs ∧ b ≠ bn ∧ pv.ownBlock ≠ some b := by
  unfold BRow at h
  refine ⟨?_, ?_, ?_, ?_⟩
  · rintro rfl
    rw [D.obj] at h
    exact absurd (cells_ty h) (by decide)
  · rintro rfl
    obtain ⟨f, ⟨_, _, hh, _⟩, _⟩ := D.safe
    rw [hh] at h
    cases h
  · rintro rfl
    obtain ⟨f, ⟨_, _, hh, _⟩, _⟩ := D.now
    rw [hh] at h
    cases h
  · intro e
    obtain ⟨_, cur, hh⟩ := own_block D.pend e
    rw [hh] at h
    exact absurd (cells_ty h) (by decide)
theorem BRow.fr {b : Nat} {f : Nat → Bool} (h : BRow w b f) (D : Dev w n₀ p bs bn pv size G0 G1 L left dead) (F : Fr p bs bn w pv w' pv') : BRow w' b f := by
  obtain ⟨h1, h2, h3, h4⟩ := h.ne D
  exact (F.keep b (lt_of_block h) h1 h2 h3 h4).1.trans h
theorem BRow.dev {b : Nat} {f : Nat → Bool} (h : BRow w b f) (D : Dev w n₀ p bs bn pv size G0 G1 L left dead) (k : Nat) (v : Value) : Dev (w.setCell ⟨b, k, none⟩ v) n₀ p bs bn pv size G0 G1 L left dead :=
  D.far (i := k) v h (by decide) (h.ne D).1
theorem BRow.row {b g k : Nat} {f : Nat → Bool} {xs : List Int} (h : BRow w b f) (hr : Row8 w g xs) (v : Value) : Row8 (w.setCell ⟨b, k, none⟩ v) g xs := by
  refine (heap_setCell_other _ _ _ _ ?_).trans hr
  show g ≠ b
  rintro rfl
  unfold BRow at h
  unfold Row8 at hr
  rw [h] at hr
  exact absurd (cells_ty hr) (by decide)
end

theorem full_1 (w : World) (c : Int) : Calls Try.prog 10 #[.int .i64 1, .int .u8 c] w fun e w' => ∃ b, e = .returned (.slice (some ⟨b, 0, none⟩) 128 128) ∧ Row8 w' b (sv 128 c) ∧ Below w.heap.size w w' := by
  refine (full_row w 1 c (by decide)).mono ?_
  rintro e w' ⟨b, rfl, _, hb, hg⟩
  exact ⟨b, rfl, hb, hg⟩
theorem kept_in {L : List (Int × List Int)} {ks : List Bool} {q : Int × List Int} (h : q ∈ keptL L ks) : q ∈ L := by
  unfold keptL at h
  obtain ⟨z, hz, rfl⟩ := List.mem_map.1 h
  exact List.fst_mem_of_mem_zipIdx (List.mem_filter.1 hz).1
theorem appl_or (L : List (Int × List Int)) : ∀ (G : Int → List Int) (i : Int), appl G L i = G i ∨ ∃ q ∈ L, q.1 = i ∧ appl G L i = q.2 := by
  induction L with
  | nil => exact fun G i => .inl rfl
  | cons q L ih =>
    intro G i
    have e : appl G (q :: L) = appl (fun i => if i = q.1 then q.2 else G i) L := rfl
    rw [e]
    rcases ih (fun i => if i = q.1 then q.2 else G i) i with h | ⟨z, hz, h1, h2⟩
    · by_cases hi : i = q.1
      · exact .inr ⟨q, by simp, hi.symm, by rw [h, if_pos hi]⟩
      · exact .inl (by rw [h, if_neg hi])
    · exact .inr ⟨z, by simp [hz], h1, h2⟩
theorem catS_get {G : Int → List Int} (hG : ∀ k, IsSec (G k)) (s i : Nat) (hi : i < 128) : ∀ n, s < n → (catS G 0 n)[s * 128 + i]? = some ((G (s : Int)).getD i 0)
  | 0, h => absurd h (by omega)
  | n + 1, h => by
    rw [catS_succ]
    by_cases hs : s < n
    · rw [List.getElem?_append_left (by rw [catS_len hG]; omega)]
      exact catS_get hG s i hi n hs
    · obtain rfl : s = n := by omega
      rw [List.getElem?_append_right (by rw [catS_len hG]; omega), catS_len hG, show s * 128 + i - s * 128 = i by omega]
      have hl := (hG (0 + (s : Int))).len
      rw [List.getElem?_eq_getElem (by rw [hl]; exact hi)]
      simp [List.getD, show i < (G (s : Int)).length by have := (hG (s : Int)).len; omega]
theorem row_sec {w : World} {b : Nat} {G : Int → List Int} (h : Row8 w b (catS G 0 8)) (hG : ∀ k, IsSec (G k)) (s i : Nat) (hs : s < 8) (hi : i < 128) : w.cell? ⟨b, s * 128 + i, none⟩ = some (.int .u8 ((G (s : Int)).getD i 0)) := by
  rw [cell_of_row w b _ _ _ _ h, cells_get, catS_get hG s i hi 8 hs]
  rfl
theorem sec_str {w : World} {b : Nat} {G : Int → List Int} {S : ByteArray} (h : Row8 w b (catS G 0 8)) (hG : ∀ k, IsSec (G k)) (s cap : Nat) (hs : s < 8) (hS : Hid (strOfNums (G (s : Int)) = S)) : (convert 31 9 (.slice (some ⟨b, s * 128, none⟩) 128 cap)).run Try.prog w = .ok (.string S) w := by
  rw [← hS.out]
  exact run_convert_bytes_arg w 31 5 Try.underlying31 Try.underlying5 b (s * 128) 128 cap (G (s : Int)) (hG _).len (fun i hi => row_sec h hG s i hs hi) 9 Try.underlying9
end Go.Proofs.Ytofgphiamllmdaa
