/- Letters, digits, signs; where names end. -/
import Derived.Test.YtlhmeipbcioncaaDoorLexM
import Derived.Test.YtlhmeipbcioncaaDoorCut
import Derived.Lib.OthersKept
namespace Go.Proofs.YtlhmeipbcioncaaDoor
open Go.RowKit
set_option maxRecDepth 100000
theorem letter_any (c : Int) (w : World) : Calls Tryd.prog 31 #[.int .u8 c] w fun e w' => e = .returned (.bool (letB c)) ∧ w = w' := by
  unfold letB
  by_cases h1 : 97 ≤ c <;> by_cases h2 : c ≤ 122 <;> by_cases h3 : 65 ≤ c <;> by_cases h4 : c ≤ 90 <;>
  (go_enter Tryd.func31, Tryd.ntmps31; go_wp2; go_ret; exact ⟨ret_bool (by simp [h1, h2, h3, h4]), rfl⟩)
theorem digit_any (c : Int) (w : World) : Calls Tryd.prog 33 #[.int .u8 c] w fun e w' => e = .returned (.bool (dgB c)) ∧ w = w' := by
  unfold dgB
  by_cases h1 : 48 ≤ c <;> by_cases h2 : c ≤ 57 <;>
  (go_enter Tryd.func33, Tryd.ntmps33; go_wp2; go_ret; exact ⟨ret_bool (by simp [h1, h2]), rfl⟩)
theorem take_contains (cs : List Int) (b : Int) (pos : Nat) (hp : pos < cs.length) : (cs.take (pos + 1)).contains b = ((cs.take pos).contains b || cs.getD pos 0 == b) := by
  rw [List.take_succ_eq_append_getElem hp, List.contains_append, show cs.getD pos 0 = cs[pos] by simp [hp]]
  congr 1
  rw [List.contains_cons, List.contains_nil, Bool.or_false]
  exact Bool.beq_comm
set_option maxHeartbeats 4000000 in
/-- A byte that is one of a text of ASCII. -/
theorem has_any (cs : List Int) (b : Int) (w : World) (hc : ∀ x ∈ cs, 0 ≤ x ∧ x < 128) (hb : 0 ≤ b ∧ b < 256) : Calls Tryd.prog 29 #[.string (strOfNums cs), .int .u8 b] w fun e w' => e = .returned (.bool (cs.contains b)) ∧ Below w.heap.size w w' := by
  have hsz : (strOfNums cs).size = cs.length := strOfNums_size cs
  have hc' : ∀ x ∈ cs, 0 ≤ x ∧ x < 256 := fun x hx => ⟨(hc x hx).1, by have := (hc x hx).2; omega⟩
  have hwr : IntKind.i32.wrap b = b := by rw [IntKind.wrap_i32]; omega
  obtain ⟨S, hS⟩ : ∃ S, Hid (strOfNums cs = S) := ⟨_, rfl⟩
  have hat : ∀ k, k < cs.length → ∀ hp : k < S.size, (S[k]'hp).toNat = (cs.getD k 0).toNat := by
    intro k hk hp
    have h := str_at cs hc' k hk
    have e := hS.out
    subst e
    have := h hp
    omega
  rw [hS.out] at hsz ⊢
  go_enter Tryd.func29, Tryd.ntmps29
  go_wp2
  go_loopw [] (fun wr => ∃ pos : Nat, wr.heap[w.heap.size]? = some (.stringIter S pos) ∧ Below w.heap.size w wr ∧ pos ≤ cs.length ∧ Hid ((cs.take pos).contains b = false)) (fun wr => cs.length - wr.iterPos w.heap.size)
  case atStart =>
    refine ⟨0, ?_, (Below.refl _ w).alloc (Nat.le_refl _) _, Nat.zero_le _, rfl⟩
    simpa using World.iter_heap w S 0
  case round =>
    obtain ⟨pos, hit, hbw, hpos, hno⟩ := hrel
    have hit2 := fun p' => Lib.iterAt_heap wr w.heap.size S pos p' hit
    have hbw2 := fun p' => Lib.below_iterAt hbw (k := w.heap.size) (Nat.le_refl _) S p'
    by_cases hp : pos < cs.length
    · have hp' : pos < S.size := by omega
      have hch := hc (cs.getD pos 0) (by rw [show cs.getD pos 0 = cs[pos] by simp [hp]]; exact List.getElem_mem hp)
      have hv : ((S[pos]'hp').toNat : Int) = cs.getD pos 0 := by rw [hat pos hp hp']; omega
      have hnx : ∀ ty, (Instr.next (.pointer (some ⟨w.heap.size, 0, none⟩)) true ty).run Tryd.prog wr = .ok (.tuple #[.bool true, .int .i64 pos, .int .i32 (cs.getD pos 0)]) (wr.iterAt w.heap.size S (pos + 1)) := fun ty => by
        rw [Lib.run_next_ascii_at wr w.heap.size S pos ty hit hp' (by rw [hat pos hp hp']; omega), hv]
      have htk := take_contains cs b pos hp
      have hme : cs.getD pos 0 = b → cs.contains b = true := fun heq => by
        rw [List.contains_iff_mem, ← heq, show cs.getD pos 0 = cs[pos] by simp [hp]]
        exact List.getElem_mem hp
      clear hv hat
      generalize cs.getD pos 0 = c at *
      by_cases heq : c = b
      · have he := hme heq
        have hcb : (c == b) = true := by simp [heq]
        go_wp2
        go_ret
        exact ⟨ret_bool he.symm, hbw2 _⟩
      · have hcb : (c == b) = false := by simp [heq]
        go_wp2
        go_roundw
        case rel =>
          refine ⟨pos + 1, hit2 _, hbw2 _, hp, ?_⟩
          show _ = _
          rw [htk, hno.out, hcb]
          rfl
        case measure =>
          simp only [World.iterPos, hit2, hit]
          omega
    · have hnx : ∀ ty, (Instr.next (.pointer (some ⟨w.heap.size, 0, none⟩)) true ty).run Tryd.prog wr = _ := fun ty => Lib.run_next_end_at wr w.heap.size S pos ty hit (by omega)
      have he : cs.contains b = false := by
        have := hno.out
        rwa [List.take_of_length_le (by omega)] at this
      go_wp2
      go_ret
      exact ⟨ret_bool he.symm, hbw⟩
theorem lit_bl : (⟨#[32, 9, 10, 13]⟩ : ByteArray) = strOfNums [32, 9, 10, 13] := rfl
theorem lit_sg : (⟨#[43, 45, 42, 47, 92, 60, 62, 61, 126, 44, 64, 37, 38, 63]⟩ : ByteArray) = strOfNums sgs := rfl
theorem blB_eq (b : Int) : ([32, 9, 10, 13] : List Int).contains b = blB b := by
  unfold blB
  simp only [List.contains_cons, List.contains_nil, Bool.or_false, Bool.or_assoc]
theorem has_bl (b : Int) (w : World) (hb : 0 ≤ b ∧ b < 256) : Calls Tryd.prog 29 #[.string ⟨#[32, 9, 10, 13]⟩, .int .u8 b] w fun e w' => e = .returned (.bool (blB b)) ∧ Below w.heap.size w w' := by
  rw [lit_bl, ← blB_eq]
  exact has_any _ b w (by decide) hb
theorem has_sg (b : Int) (w : World) (hb : 0 ≤ b ∧ b < 256) : Calls Tryd.prog 29 #[.string ⟨#[43, 45, 42, 47, 92, 60, 62, 61, 126, 44, 64, 37, 38, 63]⟩, .int .u8 b] w fun e w' => e = .returned (.bool (sgB b)) ∧ Below w.heap.size w w' := by
  rw [lit_sg]
  exact has_any _ b w (by decide) hb
theorem getD_drop (ss : List Int) (k j : Nat) : (ss.drop k).getD j 0 = ss.getD (k + j) 0 := by simp [List.getD, List.getElem?_drop]
/-- A colon that is alone. -/
theorem lone_any (ss : List Int) (k : Nat) (w : World) (hb : ∀ x ∈ ss, 0 ≤ x ∧ x < 256) (hm : ss.length ≤ 9223372036854775806) (hk : k ≤ ss.length) : Calls Tryd.prog 49 #[.string (strOfNums ss), .int .i64 k] w fun e w' => e = .returned (.bool (lone (ss.drop k))) ∧ w = w' := by
  have hsz : (strOfNums ss).size = ss.length := strOfNums_size ss
  have hw1 : IntKind.i64.wrap ((k : Int) + 1) = (k : Int) + 1 := by rw [IntKind.wrap_i64]; omega
  unfold lone
  rw [getD_drop, getD_drop, Nat.add_zero]
  by_cases hlt : k < ss.length
  · have hltI : (k : Int) < (ss.length : Int) := by omega
    have hat := str_at ss hb k hlt
    obtain ⟨c, hc⟩ : ∃ c, ss.getD k 0 = c := ⟨_, rfl⟩
    rw [hc] at hat ⊢
    by_cases h58 : c = 58
    · subst h58
      by_cases hlt1 : k + 1 < ss.length
      · have hltJ : ¬ ((k : Int) + 1 = (ss.length : Int)) := by omega
        have hltK : (k : Int) + 1 < (ss.length : Int) := by omega
        have hat1 := str_at ss hb (k + 1) hlt1
        obtain ⟨d, hd⟩ : ∃ d, ss.getD (k + 1) 0 = d := ⟨_, rfl⟩
        rw [hd] at hat1 ⊢
        have hto : ((k : Int) + 1).toNat = k + 1 := by omega
        by_cases h61 : d = 61
        · subst h61
          go_enter Tryd.func49, Tryd.ntmps49
          go_wp2
          go_ret
          exact ⟨ret_bool (by simp; omega), rfl⟩
        · have h61' : (d == 61) = false := by simp [h61]
          have h61n : (d != 61) = true := by simp [h61]
          go_enter Tryd.func49, Tryd.ntmps49
          go_wp2
          all_goals go_ret
          all_goals exact ⟨ret_bool (by simp [h61]), rfl⟩
      · have e : ss.getD (k + 1) 0 = 0 := by simp [List.getD, Nat.not_lt.1 hlt1]
        have hJ : (k : Int) + 1 = (ss.length : Int) := by omega
        rw [e]
        go_enter Tryd.func49, Tryd.ntmps49
        go_wp2
        all_goals go_ret
        all_goals exact ⟨ret_bool (by simp), rfl⟩
    · have h58' : (c == 58) = false := by simp [h58]
      rw [h58']
      go_enter Tryd.func49, Tryd.ntmps49
      go_wp2
      go_ret
      exact ⟨rfl, rfl⟩
  · have e : ss.getD k 0 = 0 := by simp [List.getD, Nat.not_lt.1 hlt]
    have hltI : ¬ (k : Int) < (ss.length : Int) := by omega
    rw [e]
    go_enter Tryd.func49, Tryd.ntmps49
    go_wp2
    go_ret
    exact ⟨rfl, rfl⟩
end Go.Proofs.YtlhmeipbcioncaaDoor
