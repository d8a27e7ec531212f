/- Symbols, and words of any kind. -/
import Derived.Test.YtoghhjljmhdioaaLxQ
namespace Go.Proofs.Ytoghhjljmhdioaa
open Go.RowKit
set_option maxRecDepth 100000
/-- What a reader of words answers, by what stands there. -/
def WO (o : Option (Int × List Int × Nat)) (k : Nat) (kd : Int) (t : List Int) (m : Nat) (ok : Bool) : Prop := (∃ n, o = some (kd, t, n) ∧ m = k + n ∧ ok = true) ∨ (o = none ∧ ok = false)
def Ans (o : Option (Int × List Int × Nat)) (k : Nat) (e : Ending) : Prop := ∃ kd t m ok, e = RW kd t m ok ∧ WO o k kd t m ok
theorem ans_some {k n m : Nat} {kd : Int} {t : List Int} {e : Ending} (he : e = RW kd t m true) (hm : m = k + n) : Ans (some (kd, t, n)) k e := ⟨kd, t, m, true, he, .inl ⟨n, rfl, hm, rfl⟩⟩
theorem ans_none {k m : Nat} {kd : Int} {t : List Int} {e : Ending} (he : e = RW kd t m false) : Ans none k e := ⟨kd, t, m, false, he, .inr ⟨rfl, rfl⟩⟩
def hashO (r : List Int) : Option (Int × List Int × Nat) :=
  if r.getD 1 0 = 40 then some (17, r.take 2, 2)
  else if r.getD 1 0 = 39 then (qtW (r.drop 1)).map fun x => (6, x.1, x.2 + 1)
  else
    let n := plLen (r.drop 1)
    if n = 0 ∨ 1024 < n then none else some (6, (r.drop 1).take n, n + 1)
theorem Try.results40 : Try.f40.results = #[.cell 4 59, .tmp 5, .tmp 6] := by kernel_rfl
theorem Try.results24 : Try.f24.results = #[.cell 4 59, .tmp 5, .tmp 6] := by kernel_rfl
theorem rw_cast {kd : Int} {t : List Int} {m : Nat} {ok : Bool} {x : Int} (h : x = (m : Int)) : Ending.returned (.tuple #[.agg #[.int .i64 kd, .string (strOfNums t), .int .i64 0], .int .i64 x, .bool ok]) = RW kd t m ok := by rw [h]; rfl
set_option maxHeartbeats 4000000 in
theorem hashed_any (ss : List Int) (k : Nat) (w : World) (hb : ∀ x ∈ ss, 0 ≤ x ∧ x < 256) (hk : k < ss.length) (hl : ss.length ≤ 100000) : Calls Try.prog 40 #[.string (strOfNums ss), .int .i64 k] w fun e w' => Ans (hashO (ss.drop k)) k e ∧ Below w.heap.size w w' := by
  have hsz : (strOfNums ss).size = ss.length := strOfNums_size ss
  have hw1 : IntKind.i64.wrap ((k : Int) + 1) = (k : Int) + 1 := by rw [IntKind.wrap_i64]; omega
  have hw2 : IntKind.i64.wrap ((k : Int) + 1 + 1) = (k : Int) + 1 + 1 := by rw [IntKind.wrap_i64]; omega
  unfold hashO
  rw [getD_drop, List.drop_drop]
  by_cases h1 : k + 1 < ss.length
  · have hK : (k : Int) + 1 < (ss.length : Int) := by omega
    have hto : ((k : Int) + 1).toNat = k + 1 := by omega
    have hat1 := str_at ss hb (k + 1) h1
    by_cases h40 : ss.getD (k + 1) 0 = 40
    · rw [if_pos h40]
      rw [h40] at hat1
      have hp := fun w => piece_any ss 17 k (k + 2) w (by omega) (by omega)
      rw [show k + 2 - k = 2 by omega, show ((k + 2 : Nat) : Int) = (k : Int) + 1 + 1 by omega] at hp
      unfold RW at hp
      generalize hT : (ss.drop k).take 2 = T at *
      clear hT
      go_enter Try.func40, Try.ntmps40
      go_wp2_with fail
      have E0 : (w.alloc (.cells #[.int .i64 0, .string ⟨#[]⟩, .int .i64 0] 59)).heap[w.heap.size]? = some (tkB 0 ⟨#[]⟩ 0) := newT _ _
      have B0 := boxT (w := w) (o := .cells #[.int .i64 0, .string ⟨#[]⟩, .int .i64 0] 59)
      generalize w.alloc (.cells #[.int .i64 0, .string ⟨#[]⟩, .int .i64 0] 59) = w1 at *
      refine (hp _).mono ?_
      rintro e w2 ⟨rfl, hB2⟩
      have E : w2.heap[w.heap.size]? = some (tkB 0 ⟨#[]⟩ 0) := (hB2.block _ (lt_of_block E0)).trans E0
      have BB := below_size B0 (Nat.le_refl _) hB2
      obtain ⟨z0, z1, z2, zf⟩ := tk_cells E
      clear hB2
      go_wp2
      exact bodyPost_ret (v := .tuple #[.agg #[.int .i64 (17), .string (strOfNums (T)), .int .i64 0], .int .i64 ((k : Int) + 1 + 1), .bool true]) (results_tok Try.results40 rfl (load35 (stT_blk E _ _ _)) rfl rfl) rfl ⟨ans_some (rw_cast (m := k + 2) (by omega)) rfl, stT_below BB (Nat.le_refl _) _ _ _⟩
    · rw [if_neg h40]
      by_cases h39 : ss.getD (k + 1) 0 = 39
      · rw [if_pos h39]
        have hq := fun w => quoted_any ss (k + 1) w hb h1 hl
        rw [show ((k + 1 : Nat) : Int) = (k : Int) + 1 by omega] at hq
        have hO : qtW (ss.drop (k + 1)) = (match qtR (ss.drop (k + 1 + 1)) with | none => none | some (t, n) => if t.length ≤ 1024 then some (t, n + 1) else none) := by
          unfold qtW
          rw [List.drop_drop]
          rfl
        rw [hO]
        clear hO
        rw [h39] at hat1
        cases hQ : qtR (ss.drop (k + 1 + 1)) with
        | none =>
          rw [hQ] at hq
          unfold QP at hq
          simp only [Option.map_none] at hq ⊢
          clear hQ
          go_enter Try.func40, Try.ntmps40
          go_wp2_with fail
          have E0 : (w.alloc (.cells #[.int .i64 0, .string ⟨#[]⟩, .int .i64 0] 59)).heap[w.heap.size]? = some (tkB 0 ⟨#[]⟩ 0) := newT _ _
          have B0 := boxT (w := w) (o := .cells #[.int .i64 0, .string ⟨#[]⟩, .int .i64 0] 59)
          generalize w.alloc (.cells #[.int .i64 0, .string ⟨#[]⟩, .int .i64 0] 59) = w1 at *
          refine (hq _).mono ?_
          rintro e w2 ⟨rfl, hB2⟩
          have E : w2.heap[w.heap.size]? = some (tkB 0 ⟨#[]⟩ 0) := (hB2.block _ (lt_of_block E0)).trans E0
          have BB := below_size B0 (Nat.le_refl _) hB2
          obtain ⟨z0, z1, z2, zf⟩ := tk_cells E
          clear hB2
          go_wp2
          exact bodyPost_ret (v := .tuple #[.agg #[.int .i64 (6), .string (strOfNums ([])), .int .i64 0], .int .i64 (((k + 1 : Nat) : Int)), .bool false]) (results_tok Try.results40 rfl (load35 (stT_blk E _ _ _)) rfl rfl) rfl ⟨ans_none (rw_cast (m := k + 1) rfl), stT_below BB (Nat.le_refl _) _ _ _⟩
        | some x =>
          obtain ⟨t, n⟩ := x
          rw [hQ] at hq
          unfold QP at hq
          simp only at hq ⊢
          clear hQ
          by_cases h1024 : t.length ≤ 1024
          · rw [decide_eq_true h1024] at hq
            rw [if_pos h1024]
            simp only [Option.map_some]
            go_enter Try.func40, Try.ntmps40
            go_wp2_with fail
            have E0 : (w.alloc (.cells #[.int .i64 0, .string ⟨#[]⟩, .int .i64 0] 59)).heap[w.heap.size]? = some (tkB 0 ⟨#[]⟩ 0) := newT _ _
            have B0 := boxT (w := w) (o := .cells #[.int .i64 0, .string ⟨#[]⟩, .int .i64 0] 59)
            generalize w.alloc (.cells #[.int .i64 0, .string ⟨#[]⟩, .int .i64 0] 59) = w1 at *
            refine (hq _).mono ?_
            rintro e w2 ⟨rfl, hB2⟩
            have E : w2.heap[w.heap.size]? = some (tkB 0 ⟨#[]⟩ 0) := (hB2.block _ (lt_of_block E0)).trans E0
            have BB := below_size B0 (Nat.le_refl _) hB2
            obtain ⟨z0, z1, z2, zf⟩ := tk_cells E
            clear hB2
            go_wp2
            exact bodyPost_ret (v := .tuple #[.agg #[.int .i64 (6), .string (strOfNums (t)), .int .i64 0], .int .i64 (((k + 1 + 1 + n : Nat) : Int)), .bool true]) (results_tok Try.results40 rfl (load35 (stT_blk E _ _ _)) rfl rfl) rfl ⟨ans_some (rw_cast (m := k + 1 + 1 + n) rfl) (by omega), stT_below BB (Nat.le_refl _) _ _ _⟩
          · rw [decide_eq_false h1024] at hq
            rw [if_neg h1024]
            simp only [Option.map_none]
            go_enter Try.func40, Try.ntmps40
            go_wp2_with fail
            have E0 : (w.alloc (.cells #[.int .i64 0, .string ⟨#[]⟩, .int .i64 0] 59)).heap[w.heap.size]? = some (tkB 0 ⟨#[]⟩ 0) := newT _ _
            have B0 := boxT (w := w) (o := .cells #[.int .i64 0, .string ⟨#[]⟩, .int .i64 0] 59)
            generalize w.alloc (.cells #[.int .i64 0, .string ⟨#[]⟩, .int .i64 0] 59) = w1 at *
            refine (hq _).mono ?_
            rintro e w2 ⟨rfl, hB2⟩
            have E : w2.heap[w.heap.size]? = some (tkB 0 ⟨#[]⟩ 0) := (hB2.block _ (lt_of_block E0)).trans E0
            have BB := below_size B0 (Nat.le_refl _) hB2
            obtain ⟨z0, z1, z2, zf⟩ := tk_cells E
            clear hB2
            go_wp2
            exact bodyPost_ret (v := .tuple #[.agg #[.int .i64 (6), .string (strOfNums (t)), .int .i64 0], .int .i64 (((k + 1 + 1 + n : Nat) : Int)), .bool false]) (results_tok Try.results40 rfl (load35 (stT_blk E _ _ _)) rfl rfl) rfl ⟨ans_none (rw_cast (m := k + 1 + 1 + n) rfl), stT_below BB (Nat.le_refl _) _ _ _⟩
      · rw [if_neg h39]
        have hat2 := hat1
        generalize ss.getD (k + 1) 0 = c at *
        have h40' : (c == 40) = false := by simp [h40]
        have h39' : (c == 39) = false := by simp [h39]
        have hn := fun w => plainEnd_any ss (k + 1) w hb (by omega) (by omega)
        have hle := plLen_le (ss.drop (k + 1))
        rw [List.length_drop] at hle
        rw [show ((k + 1 : Nat) : Int) = (k : Int) + 1 by omega] at hn
        have hp := fun w (h : k + 1 + plLen (ss.drop (k + 1)) ≤ ss.length) => piece_any ss 6 (k + 1) (k + 1 + plLen (ss.drop (k + 1))) w (by omega) h
        rw [show k + 1 + plLen (ss.drop (k + 1)) - (k + 1) = plLen (ss.drop (k + 1)) by omega, show ((k + 1 : Nat) : Int) = (k : Int) + 1 by omega] at hp
        simp only
        generalize hT : (ss.drop (k + 1)).take (plLen (ss.drop (k + 1))) = T at *
        generalize plLen (ss.drop (k + 1)) = n at *
        have hsub : IntKind.i64.wrap (((k + 1 + n : Nat) : Int) - ((k : Int) + 1)) = (n : Int) := by rw [IntKind.wrap_i64]; omega
        unfold RW at hp
        clear hT
        by_cases h0 : n = 0
        · have hz : (((k + 1 + n : Nat) : Int) == (k : Int) + 1) = true := by simp; omega
          rw [if_pos (.inl h0)]
          generalize ((k + 1 + n : Nat) : Int) = M at *
          clear hp hsub
          go_enter Try.func40, Try.ntmps40
          go_wp2_with fail
          have E0 : (w.alloc (.cells #[.int .i64 0, .string ⟨#[]⟩, .int .i64 0] 59)).heap[w.heap.size]? = some (tkB 0 ⟨#[]⟩ 0) := newT _ _
          have B0 := boxT (w := w) (o := .cells #[.int .i64 0, .string ⟨#[]⟩, .int .i64 0] 59)
          generalize w.alloc (.cells #[.int .i64 0, .string ⟨#[]⟩, .int .i64 0] 59) = w1 at *
          refine (hn _).mono ?_
          rintro e w2 ⟨rfl, hB2⟩
          have E : w2.heap[w.heap.size]? = some (tkB 0 ⟨#[]⟩ 0) := (hB2.block _ (lt_of_block E0)).trans E0
          have BB := below_size B0 (Nat.le_refl _) hB2
          obtain ⟨z0, z1, z2, zf⟩ := tk_cells E
          clear hB2
          go_wp2
          exact bodyPost_ret (v := .tuple #[.agg #[.int .i64 (0), .string (strOfNums ([])), .int .i64 0], .int .i64 ((k : Int)), .bool false]) (results_tok Try.results40 rfl (load35 (stT_blk E _ _ _)) rfl rfl) rfl ⟨ans_none (rw_cast (m := k) rfl), stT_below BB (Nat.le_refl _) _ _ _⟩
        · have hz : (((k + 1 + n : Nat) : Int) == (k : Int) + 1) = false := by simp; omega
          by_cases h1024 : 1024 < n
          · rw [if_pos (.inr h1024)]
            have hg : (1024 : Int) < (n : Int) := by omega
            generalize ((k + 1 + n : Nat) : Int) = M at *
            clear hp
            go_enter Try.func40, Try.ntmps40
            go_wp2_with fail
            have E0 : (w.alloc (.cells #[.int .i64 0, .string ⟨#[]⟩, .int .i64 0] 59)).heap[w.heap.size]? = some (tkB 0 ⟨#[]⟩ 0) := newT _ _
            have B0 := boxT (w := w) (o := .cells #[.int .i64 0, .string ⟨#[]⟩, .int .i64 0] 59)
            generalize w.alloc (.cells #[.int .i64 0, .string ⟨#[]⟩, .int .i64 0] 59) = w1 at *
            refine (hn _).mono ?_
            rintro e w2 ⟨rfl, hB2⟩
            have E : w2.heap[w.heap.size]? = some (tkB 0 ⟨#[]⟩ 0) := (hB2.block _ (lt_of_block E0)).trans E0
            have BB := below_size B0 (Nat.le_refl _) hB2
            obtain ⟨z0, z1, z2, zf⟩ := tk_cells E
            clear hB2
            go_wp2
            exact bodyPost_ret (v := .tuple #[.agg #[.int .i64 (0), .string (strOfNums ([])), .int .i64 0], .int .i64 ((k : Int)), .bool false]) (results_tok Try.results40 rfl (load35 (stT_blk E _ _ _)) rfl rfl) rfl ⟨ans_none (rw_cast (m := k) rfl), stT_below BB (Nat.le_refl _) _ _ _⟩
          · rw [if_neg (by omega)]
            have hg : ¬ (1024 : Int) < (n : Int) := by omega
            replace hp := fun w => hp w (by omega)
            obtain ⟨M, hM⟩ : ∃ M : Nat, Hid (k + 1 + n = M) := ⟨_, rfl⟩
            rw [hM.out] at hz hsub hn hp
            go_enter Try.func40, Try.ntmps40
            go_wp2_with fail
            have E0 : (w.alloc (.cells #[.int .i64 0, .string ⟨#[]⟩, .int .i64 0] 59)).heap[w.heap.size]? = some (tkB 0 ⟨#[]⟩ 0) := newT _ _
            have B0 := boxT (w := w) (o := .cells #[.int .i64 0, .string ⟨#[]⟩, .int .i64 0] 59)
            generalize w.alloc (.cells #[.int .i64 0, .string ⟨#[]⟩, .int .i64 0] 59) = w1 at *
            refine (hn _).mono ?_
            rintro e w3 ⟨rfl, hB3⟩
            replace E0 := (hB3.block _ (lt_of_block E0)).trans E0
            replace B0 := below_size B0 (Nat.le_refl _) hB3
            clear hB3 hn
            go_wp2_with fail
            refine (hp _).mono ?_
            rintro e w2 ⟨rfl, hB2⟩
            have E : w2.heap[w.heap.size]? = some (tkB 0 ⟨#[]⟩ 0) := (hB2.block _ (lt_of_block E0)).trans E0
            have BB := below_size B0 (Nat.le_refl _) hB2
            obtain ⟨z0, z1, z2, zf⟩ := tk_cells E
            clear hB2
            go_wp2
            exact bodyPost_ret (v := .tuple #[.agg #[.int .i64 (6), .string (strOfNums (T)), .int .i64 0], .int .i64 ((M : Int)), .bool true]) (results_tok Try.results40 rfl (load35 (stT_blk E _ _ _)) rfl rfl) rfl ⟨ans_some (n := n + 1) (rw_cast (m := M) rfl) (by have := hM.out; omega), stT_below BB (Nat.le_refl _) _ _ _⟩
  · have hK : ¬ (k : Int) + 1 < (ss.length : Int) := by omega
    have e0 : ss.getD (k + 1) 0 = 0 := by simp [List.getD, Nat.not_lt.1 h1]
    rw [e0, if_neg (by decide), if_neg (by decide)]
    have hn := fun w => plainEnd_any ss (k + 1) w hb (by omega) (by omega)
    have hle := plLen_le (ss.drop (k + 1))
    rw [List.length_drop] at hle
    rw [show ((k + 1 : Nat) : Int) = (k : Int) + 1 by omega] at hn
    have hp := fun w (h : k + 1 + plLen (ss.drop (k + 1)) ≤ ss.length) => piece_any ss 6 (k + 1) (k + 1 + plLen (ss.drop (k + 1))) w (by omega) h
    rw [show k + 1 + plLen (ss.drop (k + 1)) - (k + 1) = plLen (ss.drop (k + 1)) by omega, show ((k + 1 : Nat) : Int) = (k : Int) + 1 by omega] at hp
    simp only
    generalize hT : (ss.drop (k + 1)).take (plLen (ss.drop (k + 1))) = T at *
    generalize plLen (ss.drop (k + 1)) = n at *
    have hsub : IntKind.i64.wrap (((k + 1 + n : Nat) : Int) - ((k : Int) + 1)) = (n : Int) := by rw [IntKind.wrap_i64]; omega
    unfold RW at hp
    clear hT
    have h0 : n = 0 := by omega
    have hz : (((k + 1 + n : Nat) : Int) == (k : Int) + 1) = true := by simp; omega
    rw [if_pos (.inl h0)]
    generalize ((k + 1 + n : Nat) : Int) = M at *
    clear hp hsub
    go_enter Try.func40, Try.ntmps40
    go_wp2_with fail
    have E0 : (w.alloc (.cells #[.int .i64 0, .string ⟨#[]⟩, .int .i64 0] 59)).heap[w.heap.size]? = some (tkB 0 ⟨#[]⟩ 0) := newT _ _
    have B0 := boxT (w := w) (o := .cells #[.int .i64 0, .string ⟨#[]⟩, .int .i64 0] 59)
    generalize w.alloc (.cells #[.int .i64 0, .string ⟨#[]⟩, .int .i64 0] 59) = w1 at *
    refine (hn _).mono ?_
    rintro e w2 ⟨rfl, hB2⟩
    have E : w2.heap[w.heap.size]? = some (tkB 0 ⟨#[]⟩ 0) := (hB2.block _ (lt_of_block E0)).trans E0
    have BB := below_size B0 (Nat.le_refl _) hB2
    obtain ⟨z0, z1, z2, zf⟩ := tk_cells E
    clear hB2
    go_wp2
    exact bodyPost_ret (v := .tuple #[.agg #[.int .i64 (0), .string (strOfNums ([])), .int .i64 0], .int .i64 ((k : Int)), .bool false]) (results_tok Try.results40 rfl (load35 (stT_blk E _ _ _)) rfl rfl) rfl ⟨ans_none (rw_cast (m := k) rfl), stT_below BB (Nat.le_refl _) _ _ _⟩
theorem named_ans (ss : List Int) (k : Nat) (w : World) (hb : ∀ x ∈ ss, 0 ≤ x ∧ x < 256) (hk : k < ss.length) (hl : ss.length ≤ 100000) : Calls Try.prog 36 #[.string (strOfNums ss), .int .i64 k] w fun e w' => Ans (if lone ((ss.drop k).drop (nmLen (ss.drop k))) then some (2, (ss.drop k).take (nmLen (ss.drop k) + 1), nmLen (ss.drop k) + 1) else some (1, (ss.drop k).take (nmLen (ss.drop k)), nmLen (ss.drop k))) k e ∧ Below w.heap.size w w' := by
  refine (named_any ss k w hb hk (by omega)).mono ?_
  rintro e w' ⟨rfl, hB⟩
  refine ⟨?_, hB⟩
  rw [List.drop_drop]
  split
  · exact ans_some rfl rfl
  · exact ans_some rfl rfl
theorem number_ans (ss : List Int) (k : Nat) (w : World) (hb : ∀ x ∈ ss, 0 ≤ x ∧ x < 256) (hk : k < ss.length) (hl : ss.length ≤ 100000) : Calls Try.prog 38 #[.string (strOfNums ss), .int .i64 k] w fun e w' => Ans (if decide (rdE ((ss.drop k).take ((ss.drop k).takeWhile dgB).length) = 0) = true then some (4, (ss.drop k).take ((ss.drop k).takeWhile dgB).length, ((ss.drop k).takeWhile dgB).length) else none) k e ∧ Below w.heap.size w w' := by
  by_cases h0 : rdE ((ss.drop k).take ((ss.drop k).takeWhile dgB).length) = 0
  · rw [if_pos (decide_eq_true h0)]
    refine (number_yes ss k w hb (by omega) (by omega) h0).mono ?_
    rintro e w' ⟨rfl, hB⟩
    exact ⟨ans_some rfl rfl, hB⟩
  · rw [if_neg (by rw [decide_eq_false h0]; decide)]
    refine (number_no ss k w hb (by omega) (by omega) h0).mono ?_
    rintro e w' ⟨rfl, hB⟩
    exact ⟨ans_none rfl, hB⟩
theorem mark_ans (ss : List Int) (k : Nat) (w : World) (hb : ∀ x ∈ ss, 0 ≤ x ∧ x < 256) (hk : k < ss.length) (hl : ss.length ≤ 100000) : Calls Try.prog 43 #[.string (strOfNums ss), .int .i64 k] w fun e w' => Ans (if ss.getD k 0 = 58 then (if lone (ss.drop k) then some (16, (ss.drop k).take 1, 1) else some (7, (ss.drop k).take 2, 2)) else (mks.idxOf? (ss.getD k 0)).map fun (i : Nat) => (8 + (i : Int), (ss.drop k).take 1, 1)) k e ∧ Below w.heap.size w w' := by
  by_cases hc : ss.getD k 0 = 58
  · rw [if_pos hc]
    refine (mark_colon ss k w hb hk (by omega) hc).mono ?_
    rintro e w' ⟨rfl, hB⟩
    refine ⟨?_, hB⟩
    split
    · exact ans_some rfl rfl
    · exact ans_some rfl rfl
  · rw [if_neg hc]
    refine (mark_any ss k w hb hk (by omega) hc).mono ?_
    rintro e w' ⟨rfl, hB⟩
    refine ⟨?_, hB⟩
    cases mks.idxOf? (ss.getD k 0) with
    | none => exact ans_none rfl
    | some i => exact ans_some rfl rfl
theorem text_ans (ss : List Int) (k : Nat) (w : World) (hb : ∀ x ∈ ss, 0 ≤ x ∧ x < 256) (hk : k < ss.length) (hl : ss.length ≤ 100000) : Calls Try.prog 39 #[.string (strOfNums ss), .int .i64 k] w fun e w' => (∃ (t : List Int) (m : Nat) (ok : Bool), e = .returned (.tuple #[.string (strOfNums t), .int .i64 m, .bool ok]) ∧ WO ((qtW (ss.drop k)).map fun x => (5, x.1, x.2)) k 5 t m ok) ∧ Below w.heap.size w w' := by
  refine (quoted_any ss k w hb hk hl).mono ?_
  rintro e w' ⟨rfl, hB⟩
  refine ⟨?_, hB⟩
  unfold qtW
  rw [List.drop_drop]
  cases qtR (ss.drop (k + 1)) with
  | none => exact ⟨[], k, false, rfl, .inr ⟨rfl, rfl⟩⟩
  | some x =>
    obtain ⟨t, n⟩ := x
    simp only
    by_cases h : t.length ≤ 1024
    · refine ⟨t, k + 1 + n, true, ?_, .inl ⟨n + 1, ?_, by omega, rfl⟩⟩
      · simp only [QP, decide_eq_true h]
      · rw [if_pos h]; rfl
    · refine ⟨t, k + 1 + n, false, ?_, .inr ⟨?_, rfl⟩⟩
      · simp only [QP, decide_eq_false h]
      · rw [if_neg h]; rfl
/-- Whether digits are a number, as whole.Read tells. -/
def rdB0 (d : List Int) : Bool := decide (rdE d = 0)
set_option maxHeartbeats 8000000 in
theorem word_any (ss : List Int) (k : Nat) (w : World) (hb : ∀ x ∈ ss, 0 ≤ x ∧ x < 256) (hk : k < ss.length) (hl : ss.length ≤ 100000) : Calls Try.prog 24 #[.string (strOfNums ss), .int .i64 k] w fun e w' => Ans (word rdB0 (ss.drop k)) k e ∧ Below w.heap.size w w' := by
  have hsz : (strOfNums ss).size = ss.length := strOfNums_size ss
  have hK : (k : Int) < (ss.length : Int) := by omega
  have hat := str_at ss hb k hk
  have hcb := hb (ss.getD k 0) (by rw [getD_lt hk]; exact List.getElem_mem hk)
  have h1 := fun w => named_ans ss k w hb hk hl
  have h2 := fun w => number_ans ss k w hb hk hl
  have h3 := fun w => text_ans ss k w hb hk hl
  have h4 := fun w => hashed_any ss k w hb hk hl
  have h5 := fun w => mark_ans ss k w hb hk hl
  have h6 := fun w => signsEnd_any ss k w hb (by omega) (by omega)
  have hle := sgLen_le (ss.drop k)
  rw [List.length_drop] at hle
  have h7 := fun w => piece_any ss 3 k (k + sgLen (ss.drop k)) w (by omega) (by omega)
  rw [show k + sgLen (ss.drop k) - k = sgLen (ss.drop k) by omega] at h7
  have hW : ∃ o, Hid (word rdB0 (ss.drop k) = o) := ⟨_, rfl⟩
  obtain ⟨o, hW⟩ := hW
  rw [hW.out]
  have hW' := hW.out
  unfold word at hW'
  simp only [getD_drop, Nat.add_zero] at hW'
  clear hW
  cases hL : letB (ss.getD k 0) with
  | true =>
    rw [hL, if_pos rfl] at hW'
    rw [hW'] at h1
    generalize ss.getD k 0 = c at *
    clear h2 h3 h4 h5 h6 h7 hle hW' hcb
    go_enter Try.func24, Try.ntmps24
    go_wp2_with (first | (go_at_call 35; refine (letter_is hL _).mono ?_; rintro e w' ⟨rfl, rfl⟩) )
    have E0 : (w.alloc (.cells #[.int .i64 0, .string ⟨#[]⟩, .int .i64 0] 59)).heap[w.heap.size]? = some (tkB 0 ⟨#[]⟩ 0) := newT _ _
    have B0 := boxT (w := w) (o := .cells #[.int .i64 0, .string ⟨#[]⟩, .int .i64 0] 59)
    generalize w.alloc (.cells #[.int .i64 0, .string ⟨#[]⟩, .int .i64 0] 59) = w1 at *
    refine (h1 _).mono ?_
    rintro e w2 ⟨⟨kd, t, m, ok, he, hO⟩, hB2⟩
    unfold RW at he
    subst he
    have E : w2.heap[w.heap.size]? = some (tkB 0 ⟨#[]⟩ 0) := (hB2.block _ (lt_of_block E0)).trans E0
    have BB := below_size B0 (Nat.le_refl _) hB2
    obtain ⟨z0, z1, z2, zf⟩ := tk_cells E
    clear hB2
    go_wp2
    exact bodyPost_ret (v := .tuple #[.agg #[.int .i64 (kd), .string (strOfNums (t)), .int .i64 0], .int .i64 ((m : Int)), .bool ok]) (results_tok Try.results24 rfl (load35 (stT_blk E _ _ _)) rfl rfl) rfl ⟨⟨kd, t, m, ok, rfl, hO⟩, stT_below BB (Nat.le_refl _) _ _ _⟩
  | false =>
  rw [hL, if_neg (by decide)] at hW'
  cases hD : dgB (ss.getD k 0) with
  | true =>
    rw [hD, if_pos rfl] at hW'
    have h2' := h2
    unfold rdB0 at hW'
    rw [hW'] at h2'
    generalize ss.getD k 0 = c at *
    clear h1 h2 h3 h4 h5 h6 h7 hle hW' hcb
    go_enter Try.func24, Try.ntmps24
    go_wp2_with (first | (go_at_call 35; refine (letter_is hL _).mono ?_; rintro e w' ⟨rfl, rfl⟩) | (go_at_call 37; refine (digit_is hD _).mono ?_; rintro e w' ⟨rfl, rfl⟩))
    have E0 : (w.alloc (.cells #[.int .i64 0, .string ⟨#[]⟩, .int .i64 0] 59)).heap[w.heap.size]? = some (tkB 0 ⟨#[]⟩ 0) := newT _ _
    have B0 := boxT (w := w) (o := .cells #[.int .i64 0, .string ⟨#[]⟩, .int .i64 0] 59)
    generalize w.alloc (.cells #[.int .i64 0, .string ⟨#[]⟩, .int .i64 0] 59) = w1 at *
    refine (h2' _).mono ?_
    rintro e w2 ⟨⟨kd, t, m, ok, he, hO⟩, hB2⟩
    unfold RW at he
    subst he
    have E : w2.heap[w.heap.size]? = some (tkB 0 ⟨#[]⟩ 0) := (hB2.block _ (lt_of_block E0)).trans E0
    have BB := below_size B0 (Nat.le_refl _) hB2
    obtain ⟨z0, z1, z2, zf⟩ := tk_cells E
    clear hB2
    go_wp2
    exact bodyPost_ret (v := .tuple #[.agg #[.int .i64 (kd), .string (strOfNums (t)), .int .i64 0], .int .i64 ((m : Int)), .bool ok]) (results_tok Try.results24 rfl (load35 (stT_blk E _ _ _)) rfl rfl) rfl ⟨⟨kd, t, m, ok, rfl, hO⟩, stT_below BB (Nat.le_refl _) _ _ _⟩
  | false =>
  rw [hD, if_neg (by decide)] at hW'
  by_cases h39 : ss.getD k 0 = 39
  · rw [if_pos h39] at hW'
    rw [hW'] at h3
    rw [h39] at hat hL hD
    clear h1 h2 h4 h5 h6 h7 hle hW' hcb h39
    go_enter Try.func24, Try.ntmps24
    go_wp2_with (first | (go_at_call 35; refine (letter_is hL _).mono ?_; rintro e w' ⟨rfl, rfl⟩) | (go_at_call 37; refine (digit_is hD _).mono ?_; rintro e w' ⟨rfl, rfl⟩))
    have E0 : (w.alloc (.cells #[.int .i64 0, .string ⟨#[]⟩, .int .i64 0] 59)).heap[w.heap.size]? = some (tkB 0 ⟨#[]⟩ 0) := newT _ _
    have B0 := boxT (w := w) (o := .cells #[.int .i64 0, .string ⟨#[]⟩, .int .i64 0] 59)
    generalize w.alloc (.cells #[.int .i64 0, .string ⟨#[]⟩, .int .i64 0] 59) = w1 at *
    refine (h3 _).mono ?_
    rintro e w2 ⟨⟨t, m, ok, rfl, hO⟩, hB2⟩
    have E : w2.heap[w.heap.size]? = some (tkB 0 ⟨#[]⟩ 0) := (hB2.block _ (lt_of_block E0)).trans E0
    have BB := below_size B0 (Nat.le_refl _) hB2
    obtain ⟨z0, z1, z2, zf⟩ := tk_cells E
    clear hB2
    go_wp2
    exact bodyPost_ret (v := .tuple #[.agg #[.int .i64 (5), .string (strOfNums (t)), .int .i64 0], .int .i64 ((m : Int)), .bool ok]) (results_tok Try.results24 rfl (load35 (stT_blk E _ _ _)) rfl rfl) rfl ⟨⟨5, t, m, ok, rfl, hO⟩, stT_below BB (Nat.le_refl _) _ _ _⟩
  · rw [if_neg h39] at hW'
    by_cases h35 : ss.getD k 0 = 35
    · rw [if_pos h35] at hW'
      have e4 : hashO (ss.drop k) = o := by
        rw [← hW']
        unfold hashO
        rw [getD_drop]
      rw [e4] at h4
      rw [h35] at hat hL hD
      clear h1 h2 h3 h5 h6 h7 hle hW' hcb h39 h35 e4
      go_enter Try.func24, Try.ntmps24
      go_wp2_with (first | (go_at_call 35; refine (letter_is hL _).mono ?_; rintro e w' ⟨rfl, rfl⟩) | (go_at_call 37; refine (digit_is hD _).mono ?_; rintro e w' ⟨rfl, rfl⟩))
      have E0 : (w.alloc (.cells #[.int .i64 0, .string ⟨#[]⟩, .int .i64 0] 59)).heap[w.heap.size]? = some (tkB 0 ⟨#[]⟩ 0) := newT _ _
      have B0 := boxT (w := w) (o := .cells #[.int .i64 0, .string ⟨#[]⟩, .int .i64 0] 59)
      generalize w.alloc (.cells #[.int .i64 0, .string ⟨#[]⟩, .int .i64 0] 59) = w1 at *
      refine (h4 _).mono ?_
      rintro e w2 ⟨⟨kd, t, m, ok, he, hO⟩, hB2⟩
      unfold RW at he
      subst he
      have E : w2.heap[w.heap.size]? = some (tkB 0 ⟨#[]⟩ 0) := (hB2.block _ (lt_of_block E0)).trans E0
      have BB := below_size B0 (Nat.le_refl _) hB2
      obtain ⟨z0, z1, z2, zf⟩ := tk_cells E
      clear hB2
      go_wp2
      exact bodyPost_ret (v := .tuple #[.agg #[.int .i64 (kd), .string (strOfNums (t)), .int .i64 0], .int .i64 ((m : Int)), .bool ok]) (results_tok Try.results24 rfl (load35 (stT_blk E _ _ _)) rfl rfl) rfl ⟨⟨kd, t, m, ok, rfl, hO⟩, stT_below BB (Nat.le_refl _) _ _ _⟩
    · rw [if_neg h35] at hW'
      cases hS : sgB (ss.getD k 0) with
      | true =>
        rw [hS, if_pos rfl] at hW'
        generalize hT : (ss.drop k).take (sgLen (ss.drop k)) = T at *
        clear hT
        obtain ⟨M, hM⟩ : ∃ M, Hid (k + sgLen (ss.drop k) = M) := ⟨_, rfl⟩
        rw [hM.out] at h6 h7
        have hO : WO o k 3 T M true := .inl ⟨sgLen (ss.drop k), hW'.symm, hM.out.symm, rfl⟩
        generalize ss.getD k 0 = c at *
        have h39' : (c == 39) = false := by simp [h39]
        have h35' : (c == 35) = false := by simp [h35]
        unfold RW at h7
        clear h1 h2 h3 h4 h5 hle hW' h39 h35 hM
        go_enter Try.func24, Try.ntmps24
        go_wp2_with (first | (go_at_call 35; refine (letter_is hL _).mono ?_; rintro e w' ⟨rfl, rfl⟩) | (go_at_call 37; refine (digit_is hD _).mono ?_; rintro e w' ⟨rfl, rfl⟩))
        have E0 : (w.alloc (.cells #[.int .i64 0, .string ⟨#[]⟩, .int .i64 0] 59)).heap[w.heap.size]? = some (tkB 0 ⟨#[]⟩ 0) := newT _ _
        have B0 := boxT (w := w) (o := .cells #[.int .i64 0, .string ⟨#[]⟩, .int .i64 0] 59)
        generalize w.alloc (.cells #[.int .i64 0, .string ⟨#[]⟩, .int .i64 0] 59) = w1 at *
        refine (sign_is hS hcb _).mono ?_
        rintro e w3 ⟨rfl, hB3⟩
        replace E0 := (hB3.block _ (lt_of_block E0)).trans E0
        replace B0 := below_size B0 (Nat.le_refl _) hB3
        clear hB3
        go_wp2_with fail
        refine (h6 _).mono ?_
        rintro e w4 ⟨rfl, hB4⟩
        replace E0 := (hB4.block _ (lt_of_block E0)).trans E0
        replace B0 := below_size B0 (Nat.le_refl _) hB4
        clear hB4
        go_wp2_with fail
        refine (h7 _).mono ?_
        rintro e w2 ⟨rfl, hB2⟩
        have E : w2.heap[w.heap.size]? = some (tkB 0 ⟨#[]⟩ 0) := (hB2.block _ (lt_of_block E0)).trans E0
        have BB := below_size B0 (Nat.le_refl _) hB2
        obtain ⟨z0, z1, z2, zf⟩ := tk_cells E
        clear hB2
        go_wp2
        exact bodyPost_ret (v := .tuple #[.agg #[.int .i64 (3), .string (strOfNums (T)), .int .i64 0], .int .i64 ((M : Int)), .bool true]) (results_tok Try.results24 rfl (load35 (stT_blk E _ _ _)) rfl rfl) rfl ⟨⟨3, T, M, true, rfl, hO⟩, stT_below BB (Nat.le_refl _) _ _ _⟩
      | false =>
        rw [hS, if_neg (by decide)] at hW'
        rw [hW'] at h5
        generalize ss.getD k 0 = c at *
        have h39' : (c == 39) = false := by simp [h39]
        have h35' : (c == 35) = false := by simp [h35]
        clear h1 h2 h3 h4 h6 h7 hle hW' h39 h35
        go_enter Try.func24, Try.ntmps24
        go_wp2_with (first | (go_at_call 35; refine (letter_is hL _).mono ?_; rintro e w' ⟨rfl, rfl⟩) | (go_at_call 37; refine (digit_is hD _).mono ?_; rintro e w' ⟨rfl, rfl⟩))
        have E0 : (w.alloc (.cells #[.int .i64 0, .string ⟨#[]⟩, .int .i64 0] 59)).heap[w.heap.size]? = some (tkB 0 ⟨#[]⟩ 0) := newT _ _
        have B0 := boxT (w := w) (o := .cells #[.int .i64 0, .string ⟨#[]⟩, .int .i64 0] 59)
        generalize w.alloc (.cells #[.int .i64 0, .string ⟨#[]⟩, .int .i64 0] 59) = w1 at *
        refine (sign_is hS hcb _).mono ?_
        rintro e w3 ⟨rfl, hB3⟩
        replace E0 := (hB3.block _ (lt_of_block E0)).trans E0
        replace B0 := below_size B0 (Nat.le_refl _) hB3
        clear hB3
        go_wp2_with fail
        refine (h5 _).mono ?_
        rintro e w2 ⟨⟨kd, t, m, ok, he, hO⟩, hB2⟩
        unfold RW at he
        subst he
        have E : w2.heap[w.heap.size]? = some (tkB 0 ⟨#[]⟩ 0) := (hB2.block _ (lt_of_block E0)).trans E0
        have BB := below_size B0 (Nat.le_refl _) hB2
        obtain ⟨z0, z1, z2, zf⟩ := tk_cells E
        clear hB2
        go_wp2
        exact bodyPost_ret (v := .tuple #[.agg #[.int .i64 (kd), .string (strOfNums (t)), .int .i64 0], .int .i64 ((m : Int)), .bool ok]) (results_tok Try.results24 rfl (load35 (stT_blk E _ _ _)) rfl rfl) rfl ⟨⟨kd, t, m, ok, rfl, hO⟩, stT_below BB (Nat.le_refl _) _ _ _⟩
end Go.Proofs.Ytoghhjljmhdioaa
