/- Read, of the program. -/
import Derived.Test.YtlhmeipbcioncaaDoorFromDec
namespace Go.Proofs.YtlhmeipbcioncaaDoor
open Go.RowKit

theorem str_inj {xs ys : List Int} (hx : ∀ x ∈ xs, 0 ≤ x ∧ x < 256) (hy : ∀ x ∈ ys, 0 ≤ x ∧ x < 256) (h : (strOfNums xs).toList = (strOfNums ys).toList) : xs = ys := by
  have e : xs.map (fun n => UInt8.ofNat n.toNat) = ys.map (fun n => UInt8.ofNat n.toNat) := by rw [Lib.strOfNums_toList, Lib.strOfNums_toList] at h; exact h
  have hl : xs.length = ys.length := by simpa using congrArg List.length e
  apply List.ext_getElem hl
  intro i h1 h2
  have e2 : (xs.map (fun n => UInt8.ofNat n.toNat))[i]? = (ys.map (fun n => UInt8.ofNat n.toNat))[i]? := by rw [e]
  rw [List.getElem?_map, List.getElem?_map, List.getElem?_eq_getElem h1, List.getElem?_eq_getElem h2] at e2
  simp only [Option.map_some, Option.some.injEq] at e2
  have e3 := congrArg UInt8.toNat e2
  have a := hx _ (List.getElem_mem h1)
  have b := hy _ (List.getElem_mem h2)
  rw [UInt8.toNat_ofNat', UInt8.toNat_ofNat', Nat.mod_eq_of_lt (by omega), Nat.mod_eq_of_lt (by omega)] at e3
  omega
theorem rdOk_eq (ss : List Int) : rdOk ss = (plainB (rdD ss) && !(rdNeg ss && decide (rdD ss = [48]))) := by
  unfold rdOk plainB
  cases hn : rdNeg ss with
  | false =>
    have hD : rdD ss = ss := by unfold rdD; rw [hn]; rfl
    rw [hD]
    cases hd : digB ss with
    | false => simp
    | true =>
      simp only [Bool.and_true, Bool.false_and, Bool.not_false]
      congr 1
      cases h48 : (ss.getD 0 0 == 48) with
      | false => simp
      | true =>
        cases ss with
        | nil => simp at h48
        | cons c r => cases r with
          | nil => simp
          | cons _ _ => simp
  | true =>
    cases ss with
    | nil => simp [rdNeg] at hn
    | cons c r =>
      have hD : rdD (c :: r) = r := by unfold rdD; rw [hn]; rfl
      rw [hD]
      cases r with
      | nil => simp
      | cons e q =>
        cases hd : digB (e :: q) with
        | false => simp
        | true =>
          cases h48 : (e == 48) with
          | false =>
            have : e ≠ 48 := by simpa using h48
            simp [this]
          | true =>
            have : e = 48 := by simpa using h48
            subst this
            cases q with
            | nil => simp
            | cons _ _ => simp
theorem plain_digs {d : List Int} (h : plainB d = true) : Digs d := by
  unfold plainB at h
  rw [Bool.and_eq_true] at h
  exact (digB_iff d).1 h.2
theorem pow_two (b m p q : Nat) (hb : 0 < b) (h : m ≤ p + q) : b ^ m ≤ b ^ p * b ^ q := by
  rw [← Nat.pow_add]
  exact Nat.pow_le_pow_right hb h
theorem pow400 (d : List Int) (h : Digs d) (hl : d.length ≤ 400) : val10 d < 4294967296 ^ 64 := by
  have a := Nat.lt_of_lt_of_le (val10_lt d h) (pow_two 10 d.length 200 200 (by decide) hl)
  have b : 10 ^ 200 * 10 ^ 200 ≤ 4294967296 ^ 32 * 4294967296 ^ 32 := Nat.mul_le_mul (by decide) (by decide)
  rw [show (64 : Nat) = 32 + 32 from rfl, Nat.pow_add]
  exact Nat.lt_of_lt_of_le a b
theorem str_eq48 (d : List Int) (hb : ∀ x ∈ d, 0 ≤ x ∧ x < 256) : ((strOfNums d).toList == [48]) = decide (d = [48]) := by
  have e : (strOfNums [48]).toList = [48] := by rw [Lib.strOfNums_toList]; rfl
  by_cases h : d = [48]
  · subst h; rw [e]; rfl
  · rw [decide_eq_false h]
    have : (strOfNums d).toList ≠ [48] := fun he => h (str_inj hb (by decide) (he.trans e.symm))
    simpa using this

set_option maxRecDepth 100000 in
set_option maxHeartbeats 4000000 in
theorem read_any (ss : List Int) (w : World) (hb : ∀ x ∈ ss, 0 ≤ x ∧ x < 256) (hm : ss.length ≤ 9223372036854775807) :
    Calls Tryd.prog 51 #[.string (strOfNums ss)] w fun e w' => ∃ v, e = .returned (.tuple #[.agg #[.bool (rdB ss), v], .int .i64 (rdE ss)]) ∧ OwnB w' w.heap.size v (rdM ss) ∧ Below w.heap.size w w' := by
  have hB1 := box_below w (.cells #[.bool false, .slice none 0 0] 63)
  have z := heap_alloc_new w (.cells #[.bool false, .slice none 0 0] 63)
  have hs1 : (w.alloc (.cells #[.bool false, .slice none 0 0] 63)).heap.size = w.heap.size + 1 := by simp
  have hsz : (strOfNums ss).size = ss.length := strOfNums_size ss
  have hok := rdOk_eq ss
  have hdb : ∀ x ∈ rdD ss, 0 ≤ x ∧ x < 256 := by
    intro x hx
    unfold rdD at hx
    split at hx
    · exact hb x (List.mem_of_mem_drop hx)
    · exact hb x hx
  have hdl := rdD_len ss
  have h48 := str_eq48 (rdD ss) hdb
  have l48 := lit48
  obtain ⟨d, Hd⟩ : ∃ d, Hid (rdD ss = d) := ⟨_, rfl⟩
  obtain ⟨nb, Hn⟩ : ∃ d, Hid (rdNeg ss = d) := ⟨_, rfl⟩
  rw [Hd.out] at hok hdb hdl h48
  rw [Hn.out] at hok
  go_enter Tryd.func51, Tryd.ntmps51
  go_wp2_with fail
  generalize w.alloc (.cells #[.bool false, .slice none 0 0] 63) = w1 at *
  refine (cut_any ss w1 hb hm).mono ?_
  rintro e w2 ⟨rfl, rfl⟩
  rw [Hd.out, Hn.out]
  go_wp2_with fail
  refine (plain_any d w1 hdb (by omega)).mono ?_
  rintro e w2 ⟨rfl, rfl⟩
  obtain ⟨q0, q1, qf0, qf1⟩ := intVar z
  have hbad : rdOk ss = false → Hid (rdB ss = false) ∧ Hid (rdE ss = 11) ∧ Hid (rdM ss = []) := by
    intro h
    exact ⟨by show _ = _; unfold rdB; rw [h]; rfl, by show _ = _; unfold rdE; rw [h]; rfl, by show _ = _; unfold rdM; rw [h]; rfl⟩
  cases hp : plainB d with
  | false =>
    rw [hp] at hok
    obtain ⟨e1, e2, e3⟩ := hbad hok
    clear hbad hok
    go_wp2
    exact bodyPost_ret (v := .tuple #[.agg #[.bool false, .slice none 0 0], .int .i64 11]) (by simp [results, Tryd.results51, go_sem, q0, q1]) rfl ⟨.slice none 0 0, by rw [e1.out, e2.out], by rw [e3.out]; exact ownB_of (n := 0) (World.ownsRow_nil _ _ _ _) (by simp), below_put (b := w.heap.size) hB1 (Nat.le_refl _)⟩
  | true =>
    have hdg := plain_digs hp
    rw [hp, Bool.true_and] at hok
    cases hz : (nb && decide (d = [48])) with
    | true =>
      rw [hz] at hok
      obtain ⟨e1, e2, e3⟩ := hbad hok
      clear hbad hok
      rw [Bool.and_eq_true, decide_eq_true_iff] at hz
      obtain ⟨rfl, rfl⟩ := hz
      rw [decide_eq_true rfl] at h48
      have h48' : (strOfNums [48]).toList = [48] := by rw [Lib.strOfNums_toList]; rfl
      go_wp2
      exact bodyPost_ret (v := .tuple #[.agg #[.bool false, .slice none 0 0], .int .i64 11]) (by simp [results, Tryd.results51, go_sem, q0, q1]) rfl ⟨.slice none 0 0, by rw [e1.out, e2.out], by rw [e3.out]; exact ownB_of (n := 0) (World.ownsRow_nil _ _ _ _) (by simp), below_put (b := w.heap.size) hB1 (Nat.le_refl _)⟩
    | false =>
      rw [hz] at hok
      simp only [Bool.not_false] at hok
      clear hbad
      by_cases h4 : ss.length ≤ 400
      · have h4' : ¬ (400 : Int) < (ss.length : Int) := by omega
        have e1 : Hid (rdB ss = fitB nb (val10 d)) := by show _ = _; unfold rdB; rw [if_pos hok, if_pos h4, Hd.out, Hn.out]
        have e2 : Hid (rdE ss = fitE (val10 d)) := by show _ = _; unfold rdE; rw [if_pos hok, if_pos h4, Hd.out]
        have e3 : Hid (rdM ss = fitM (val10 d)) := by show _ = _; unfold rdM; rw [if_pos hok, if_pos h4, Hd.out]
        have hVb := pow400 d hdg (by omega)
        have c56 := fromDec_any d w1 hdg (by omega)
        obtain ⟨V, HV⟩ : ∃ V, Hid (val10 d = V) := ⟨_, rfl⟩
        rw [HV.out] at c56 hVb e1 e2 e3
        clear hok hp
        cases nb with
        | false =>
          go_wp2_with fail
          refine c56.mono ?_
          rintro e w3 ⟨rfl, hb3⟩
          unfold W
          have a6 : Arr (w3.alloc (.cells (cellsW (words 64 0)) 87)) w3.heap.size 87 (words 64 0) := heap_alloc_new w3 _
          have a6' := a6.setW (words 64 V)
          have hz64 := (zero_of_info Tryd.info64).1
          have u := (hb3.block _ (lt_of_block z)).trans z
          have hB3 := below_size hB1 (Nat.le_refl _) hb3
          have hs3 := hb3.size
          rw [hs1] at hs3
          have f0 := (setRow_other (w3.alloc (.cells (cellsW (words 64 0)) 87)) w3.heap.size w.heap.size (cellsW (words 64 V)) (Nat.ne_of_lt (lt_of_block u))).trans ((Below.heap_alloc _ _ _ (lt_of_block u)).trans u)
          have hB4 := below_setRow (hB3.alloc hB3.size (.cells (cellsW (words 64 0)) 87)) hB3.size (cellsW (words 64 V))
          have hs4 : w.heap.size + 1 ≤ ((w3.alloc (.cells (cellsW (words 64 0)) 87)).setRow w3.heap.size (cellsW (words 64 V))).heap.size := by simp; omega
          have hsl := fun b w => run_all64 ⟨b, 0, none⟩ w
          clear q0 q1 qf0 qf1
          go_wp2_with (refine wpList_store_row rfl 87 _ _ rfl w3.heap.size _ rfl rfl 87 _ a6 (size64 _) (by rw [cellsW_size, cellsW_size, words_len, words_len]) (cellsW_one _) ?_)
          generalize (w3.alloc (.cells (cellsW (words 64 0)) 87)).setRow w3.heap.size (cellsW (words 64 V)) = w4 at *
          refine (pack_any false (Arr.isW a6' (words_len _ _) (by decide) (words_lt _ _)) (by decide) (val32_words 64 _ hVb)).mono ?_
          rintro e w5 ⟨v5, rfl, o5, hb5⟩
          have u5 := (hb5.block _ (lt_of_block f0)).trans f0
          have hB5 := below_size hB4 (Nat.le_refl _) hb5
          rw [← e1.out, ← e2.out]
          rw [← e3.out] at o5
          obtain ⟨bb, Kb⟩ : ∃ bb, Hid (rdB ss = bb) := ⟨_, rfl⟩
          obtain ⟨ee, Ke⟩ : ∃ ee, Hid (rdE ss = ee) := ⟨_, rfl⟩
          obtain ⟨mm, Km⟩ : ∃ mm, Hid (rdM ss = mm) := ⟨_, rfl⟩
          rw [Km.out] at o5
          rw [Kb.out, Ke.out]
          obtain ⟨av, cv, rfl, _⟩ := o5.2
          clear e1 e2 e3 hz64
          obtain ⟨p0, p1, pf0, pf1⟩ := intVar u5
          go_wp2
          exact bodyPost_ret (v := .tuple #[.agg #[.bool bb, .slice av mm.length cv], .int .i64 ee]) (by simp [results, Tryd.results51, go_sem, p0, p1]) rfl ⟨_, by rw [Kb.out, Ke.out], by rw [Km.out]; exact OwnB.put (base := w.heap.size + 1) (b := w.heap.size) (b0 := w.heap.size) (o5.mono (by omega)) (by omega) (by omega), below_put (b := w.heap.size) hB5 (Nat.le_refl _)⟩
        | true =>
          rw [Bool.true_and] at hz
          rw [hz] at h48
          go_wp2_with fail
          refine c56.mono ?_
          rintro e w3 ⟨rfl, hb3⟩
          unfold W
          have a6 : Arr (w3.alloc (.cells (cellsW (words 64 0)) 87)) w3.heap.size 87 (words 64 0) := heap_alloc_new w3 _
          have a6' := a6.setW (words 64 V)
          have hz64 := (zero_of_info Tryd.info64).1
          have u := (hb3.block _ (lt_of_block z)).trans z
          have hB3 := below_size hB1 (Nat.le_refl _) hb3
          have hs3 := hb3.size
          rw [hs1] at hs3
          have f0 := (setRow_other (w3.alloc (.cells (cellsW (words 64 0)) 87)) w3.heap.size w.heap.size (cellsW (words 64 V)) (Nat.ne_of_lt (lt_of_block u))).trans ((Below.heap_alloc _ _ _ (lt_of_block u)).trans u)
          have hB4 := below_setRow (hB3.alloc hB3.size (.cells (cellsW (words 64 0)) 87)) hB3.size (cellsW (words 64 V))
          have hs4 : w.heap.size + 1 ≤ ((w3.alloc (.cells (cellsW (words 64 0)) 87)).setRow w3.heap.size (cellsW (words 64 V))).heap.size := by simp; omega
          have hsl := fun b w => run_all64 ⟨b, 0, none⟩ w
          clear q0 q1 qf0 qf1
          go_wp2_with (refine wpList_store_row rfl 87 _ _ rfl w3.heap.size _ rfl rfl 87 _ a6 (size64 _) (by rw [cellsW_size, cellsW_size, words_len, words_len]) (cellsW_one _) ?_)
          generalize (w3.alloc (.cells (cellsW (words 64 0)) 87)).setRow w3.heap.size (cellsW (words 64 V)) = w4 at *
          refine (pack_any true (Arr.isW a6' (words_len _ _) (by decide) (words_lt _ _)) (by decide) (val32_words 64 _ hVb)).mono ?_
          rintro e w5 ⟨v5, rfl, o5, hb5⟩
          have u5 := (hb5.block _ (lt_of_block f0)).trans f0
          have hB5 := below_size hB4 (Nat.le_refl _) hb5
          rw [← e1.out, ← e2.out]
          rw [← e3.out] at o5
          obtain ⟨bb, Kb⟩ : ∃ bb, Hid (rdB ss = bb) := ⟨_, rfl⟩
          obtain ⟨ee, Ke⟩ : ∃ ee, Hid (rdE ss = ee) := ⟨_, rfl⟩
          obtain ⟨mm, Km⟩ : ∃ mm, Hid (rdM ss = mm) := ⟨_, rfl⟩
          rw [Km.out] at o5
          rw [Kb.out, Ke.out]
          obtain ⟨av, cv, rfl, _⟩ := o5.2
          clear e1 e2 e3 hz64
          obtain ⟨p0, p1, pf0, pf1⟩ := intVar u5
          go_wp2
          exact bodyPost_ret (v := .tuple #[.agg #[.bool bb, .slice av mm.length cv], .int .i64 ee]) (by simp [results, Tryd.results51, go_sem, p0, p1]) rfl ⟨_, by rw [Kb.out, Ke.out], by rw [Km.out]; exact OwnB.put (base := w.heap.size + 1) (b := w.heap.size) (b0 := w.heap.size) (o5.mono (by omega)) (by omega) (by omega), below_put (b := w.heap.size) hB5 (Nat.le_refl _)⟩
      · have h4' : (400 : Int) < (ss.length : Int) := by omega
        have e1 : Hid (rdB ss = false) := by show _ = _; unfold rdB; rw [if_pos hok, if_neg h4]
        have e2 : Hid (rdE ss = 24) := by show _ = _; unfold rdE; rw [if_pos hok, if_neg h4]
        have e3 : Hid (rdM ss = []) := by show _ = _; unfold rdM; rw [if_pos hok, if_neg h4]
        clear hok hp
        cases nb with
        | false =>
          go_wp2
          exact bodyPost_ret (v := .tuple #[.agg #[.bool false, .slice none 0 0], .int .i64 24]) (by simp [results, Tryd.results51, go_sem, q0, q1]) rfl ⟨.slice none 0 0, by rw [e1.out, e2.out], by rw [e3.out]; exact ownB_of (n := 0) (World.ownsRow_nil _ _ _ _) (by simp), below_put (b := w.heap.size) hB1 (Nat.le_refl _)⟩
        | true =>
          rw [Bool.true_and] at hz
          rw [hz] at h48
          go_wp2
          exact bodyPost_ret (v := .tuple #[.agg #[.bool false, .slice none 0 0], .int .i64 24]) (by simp [results, Tryd.results51, go_sem, q0, q1]) rfl ⟨.slice none 0 0, by rw [e1.out, e2.out], by rw [e3.out]; exact ownB_of (n := 0) (World.ownsRow_nil _ _ _ _) (by simp), below_put (b := w.heap.size) hB1 (Nat.le_refl _)⟩
end Go.Proofs.YtlhmeipbcioncaaDoor
