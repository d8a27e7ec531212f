/- The document's signs, texts in quotes, symbols. -/
import Derived.Test.YtncfmhlikmibaaaGreatDoorLxH
namespace Go.Proofs.YtncfmhlikmibaaaGreatDoor
open Go.RowKit
set_option maxRecDepth 100000
set_option maxHeartbeats 16000000
section
variable {c : Int} {v : Bool}
theorem Zfq (h : Ze8 c = v) (w : World) : Calls Tryz.prog 59 #[.int .u8 c] w fun e w' => e = .returned (.bool v) ∧ w = w' := by
 subst h
 unfold Ze8
 by_cases h1 : 97 ≤ c <;> by_cases h2 : c ≤ 122 <;> by_cases h3 : 65 ≤ c <;> by_cases h4 : c ≤ 90 <;>
 (go_enter Tryz.func59, Tryz.ntmps59; go_wp2; go_ret; exact ⟨Zbb (by simp [h1, h2, h3, h4]), rfl⟩)
theorem Zbz (h : dgB c = v) (w : World) : Calls Tryz.prog 60 #[.int .u8 c] w fun e w' => e = .returned (.bool v) ∧ w = w' := by
 subst h
 unfold dgB
 by_cases h1 : 48 ≤ c <;> by_cases h2 : c ≤ 57 <;>
 (go_enter Tryz.func60, Tryz.ntmps60; go_wp2; go_ret; exact ⟨Zbb (by simp [h1, h2]), rfl⟩)
theorem Zrf (cs : List Int) (b : Int) (w : World) (hc : ∀ x ∈ cs, 0 ≤ x ∧ x < 256) (hl : cs.length ≤ 1000) : Calls Tryz.prog 101 #[.int .u8 b, .string (strOfNums cs)] w fun e w' => e = .returned (.bool (cs.contains b)) ∧ w = w' := by
 have hsz : (strOfNums cs).size = cs.length := strOfNums_size cs
 obtain ⟨Q, hQ⟩ : ∃ Q, Hid (cs.contains b = Q) := ⟨_, rfl⟩
 rw [hQ.out]
 go_enter Tryz.func101, Tryz.ntmps101
 go_wp2
 go_loop [5] (fun v => ∃ i : Nat, i ≤ cs.length ∧ v = .int .i64 i ∧ Hid ((cs.take i).contains b = false)) (fun v => cs.length - (intOf v).toNat)
 case atStart => exact ⟨0, Nat.zero_le _, rfl, rfl⟩
 obtain ⟨i, hi, rfl, hno⟩ := hrel
 by_cases hlt : i < cs.length
 ·have hltI : (i : Int) < (cs.length : Int) := by omega
  have hw1 : IntKind.i64.wrap ((i : Int) + 1) = (i : Int) + 1 := by rw [IntKind.wrap_i64]; omega
  have hat := Zbd cs hc i hlt
  have htk := Ze2 cs b i hlt
  have hme : cs.getD i 0 = b → Hid (cs.contains b = true) := fun heq => by
   show _ = _
   rw [List.contains_iff_mem, ← heq, Zbn hlt]
   exact List.getElem_mem hlt
  have hnx : cs.getD i 0 ≠ b → Hid ((cs.take (i + 1)).contains b = false) := fun h => by
   show _ = _
   rw [htk, hno.out, beq_eq_false_iff_ne.2 h]
   rfl
  clear htk hno
  generalize cs.getD i 0 = c at *
  by_cases heq : c = b
  ·have he := hme heq
   have hcb : (c == b) = true := by simp [heq]
   clear hme hnx
   go_wp2
   go_ret
   exact ⟨Zbb (he.out.symm.trans hQ.out), rfl⟩
  have he := hnx heq
  have hcb : (c == b) = false := by simp [heq]
  clear hme hnx
  go_wp2
  go_round
  case rel => exact ⟨i + 1, hlt, by go_num, he⟩
  case measure => simp [intOf]; omega
 have hltI : ¬ (i : Int) < (cs.length : Int) := by omega
 have he : Hid (cs.contains b = false) := by
  show _ = _
  have := hno.out
  rwa [List.take_of_length_le (by omega)] at this
 go_wp2
 go_ret
 exact ⟨Zbb (he.out.symm.trans hQ.out), rfl⟩
theorem Zd3 (h : sgB c = v) (w : World) : Calls Tryz.prog 78 #[.int .u8 c] w fun e w' => e = .returned (.bool v) ∧ w = w' := by
 subst h
 have hA : Calls Tryz.prog 101 #[.int .u8 c, .string ⟨#[43, 45, 42, 47, 92, 60, 62, 61, 126, 44, 64, 37, 38, 63]⟩] w fun e w' => e = .returned (.bool (sgB c)) ∧ w = w' := Zrf sgs c w (by decide) (by decide)
 go_enter Tryz.func78, Tryz.ntmps78
 go_wp2_with (go_at_call 101; refine hA.mono ?_; rintro e w' ⟨rfl, rfl⟩)
 go_ret
 exact ⟨rfl, rfl⟩
theorem Zg1 (ss : List Int) (k : Nat) (w : World) (hb : ∀ x ∈ ss, 0 ≤ x ∧ x < 256) : Calls Tryz.prog 76 #[.string (strOfNums ss), .int .i64 k] w fun e w' => e = .returned (.int .u8 (ss.getD k 0)) ∧ w = w' := by
 have hsz : (strOfNums ss).size = ss.length := strOfNums_size ss
 by_cases hlt : k < ss.length
 ·have hltI : (k : Int) < (ss.length : Int) := by omega
  have hat := Zbd ss hb k hlt
  generalize ss.getD k 0 = c at *
  go_enter Tryz.func76, Tryz.ntmps76
  go_wp2
  go_ret
  exact ⟨rfl, rfl⟩
 have hltI : ¬ (k : Int) < (ss.length : Int) := by omega
 have e : ss.getD k 0 = 0 := by simp only [List.getD_eq_getElem?_getD]; rw [List.getElem?_eq_none (by omega)]; rfl
 rw [e]
 go_enter Tryz.func76, Tryz.ntmps76
 go_wp2
 go_ret
 exact ⟨rfl, rfl⟩
theorem Zg0 (ss : List Int) (k : Nat) (w : World) (hb : ∀ x ∈ ss, 0 ≤ x ∧ x < 256) (hm : ss.length ≤ 9223372036854775800) (hk : k ≤ ss.length) : Calls Tryz.prog 36 #[.string (strOfNums ss), .int .i64 k] w fun e w' => e = .returned (.int .i64 (k + Zaq (ss.drop k) : Nat)) ∧ w = w' := by
 have hsz : (strOfNums ss).size = ss.length := strOfNums_size ss
 by_cases hlt : k < ss.length
 ·have hltJ : (k : Int) < (ss.length : Int) := by omega
  have hltK : ¬ (ss.length : Int) ≤ (k : Int) := by omega
  have hltD : decide ((ss.length : Int) ≤ (k : Int)) = false := by simp; omega
  have hat := Zbd ss hb k hlt
  cases hl : Ze8 (ss.getD k 0) with
  | false =>
   rw [Zd4 ss k hl]
   generalize ss.getD k 0 = c at *
   go_enter Tryz.func36, Tryz.ntmps36
   go_wp2_with (go_at_call 59; refine (Zfq hl _).mono ?_; rintro e w' ⟨rfl, rfl⟩)
   go_ret
   exact ⟨rfl, rfl⟩
  | true =>
   rw [Zm5 ss k hl]
   obtain ⟨E, hE⟩ : ∃ E, Hid (k + ((ss.drop k).takeWhile nmB).length = E) := ⟨_, rfl⟩
   rw [hE.out]
   generalize ss.getD k 0 = c at *
   go_enter Tryz.func36, Tryz.ntmps36
   go_wp2_with (go_at_call 59; refine (Zfq hl _).mono ?_; rintro e w' ⟨rfl, rfl⟩)
   clear hat hl hltJ hltK hltD
   go_loop [1] (fun n => ∃ i : Nat, i ≤ ss.length ∧ n = .int .i64 i ∧ Hid (i + ((ss.drop i).takeWhile nmB).length = E)) (fun n => ss.length - (intOf n).toNat)
   case atStart => exact ⟨k, hk, rfl, hE⟩
   obtain ⟨i, hi, rfl, hv⟩ := hrel
   clear hE
   by_cases hlt : i < ss.length
   ·have hltI : (i : Int) < (ss.length : Int) := by omega
    have hat := Zbd ss hb i hlt
    have hw1 : IntKind.i64.wrap ((i : Int) + 1) = (i : Int) + 1 := by rw [IntKind.wrap_i64]; omega
    have hs := Zgv nmB ss i hlt
    have hn : nmB (ss.getD i 0) = (Ze8 (ss.getD i 0) || dgB (ss.getD i 0) || ss.getD i 0 == 95) := rfl
    have hyes : nmB (ss.getD i 0) = true → Hid ((i + 1) + ((ss.drop (i + 1)).takeWhile nmB).length = E) := fun h => by
     show _ = _
     rw [h, if_pos rfl] at hs
     have := hv.out
     omega
    have hnot : nmB (ss.getD i 0) = false → Hid (i = E) := fun h => by
     show _ = _
     rw [h, if_neg (by decide)] at hs
     have := hv.out
     omega
    clear hs hv
    generalize ss.getD i 0 = c at *
    rw [hn] at hyes hnot
    clear hn
    cases hl : Ze8 c <;> cases hd : dgB c <;> cases h95 : (c == 95)
    all_goals rw [hl, hd, h95] at hyes hnot
    all_goals first | replace hyes := hyes rfl | replace hnot := hnot rfl
    all_goals go_wp2_with (first | (go_at_call 59; refine (Zfq hl _).mono ?_; rintro e w' ⟨rfl, rfl⟩) | (go_at_call 60; refine (Zbz hd _).mono ?_; rintro e w' ⟨rfl, rfl⟩))
    any_goals (go_ret; exact ⟨Zby (by rw [hnot.out]), rfl⟩)
    all_goals go_round
    all_goals first | exact ⟨i + 1, by omega, by go_num, hyes⟩ | (simp [intOf]; omega)
   have hltI : ¬ (i : Int) < (ss.length : Int) := by omega
   have hs := Zk1 nmB ss i (by omega)
   have hv' := hv.out
   go_wp2
   go_ret
   exact ⟨Zby (by omega), rfl⟩
 have e : k = ss.length := by omega
 subst e
 rw [Zd4 ss _ (by simp [List.getD]; rfl)]
 go_enter Tryz.func36, Tryz.ntmps36
 go_wp2
 go_ret
 exact ⟨rfl, rfl⟩
theorem Ziv (ss : List Int) (k : Nat) (w : World) (hb : ∀ x ∈ ss, 0 ≤ x ∧ x < 256) (hm : ss.length ≤ 9223372036854775800) (hk : k ≤ ss.length) : Calls Tryz.prog 73 #[.string (strOfNums ss), .int .i64 k] w fun e w' => e = .returned (.bool (Zic (ss.drop k))) ∧ w = w' := by
 have h1 := fun w => Zg1 ss k w hb
 have h2 := fun w => Zg1 ss (k + 1) w hb
 rw [show ((k + 1 : Nat) : Int) = (k : Int) + 1 by omega] at h2
 have hw1 : IntKind.i64.wrap ((k : Int) + 1) = (k : Int) + 1 := by rw [IntKind.wrap_i64]; omega
 unfold Zic
 rw [Za3, Za3, Nat.add_zero]
 generalize ss.getD k 0 = c at *
 generalize ss.getD (k + 1) 0 = d at *
 cases hc : (c == 58) with
 | false =>
  go_enter Tryz.func73, Tryz.ntmps73
  go_wp2_with (go_at_call 76; refine (h1 _).mono ?_; rintro e w' ⟨rfl, rfl⟩)
  go_ret
  exact ⟨rfl, rfl⟩
 | true =>
  go_enter Tryz.func73, Tryz.ntmps73
  go_wp2_with fail
  refine (h1 _).mono ?_
  rintro e w' ⟨rfl, rfl⟩
  go_wp2_with fail
  refine (h2 _).mono ?_
  rintro e w' ⟨rfl, rfl⟩
  go_wp2
  all_goals go_ret
  all_goals exact ⟨Zbb (by simp [*]), rfl⟩
end
theorem Zit (ss : List Int) (k : Nat) (w : World) (hb : ∀ x ∈ ss, 0 ≤ x ∧ x < 256) (hm : ss.length ≤ 9223372036854775800) (hk : k ≤ ss.length) : Calls Tryz.prog 79 #[.string (strOfNums ss), .int .i64 k] w fun e w' => e = .returned (.int .i64 (k + Zcd (ss.drop k) : Nat)) ∧ w = w' := by
 have hsz : (strOfNums ss).size = ss.length := strOfNums_size ss
 obtain ⟨E, hE⟩ : ∃ E, Hid (k + (((ss.drop k).take (k + 2 - k)).takeWhile sgB).length = E) := ⟨_, rfl⟩
 have hE' : k + Zcd (ss.drop k) = E := by
  rw [← hE.out, show k + 2 - k = 2 by omega]; rfl
 rw [hE']
 clear hE'
 go_enter Tryz.func79, Tryz.ntmps79
 go_wp2
 go_loop [1, 5] (fun v x => ∃ i : Nat, i ≤ ss.length ∧ k ≤ i ∧ i ≤ k + 2 ∧ v = .int .i64 i ∧ x = .int .i64 ((i - k : Nat) : Int) ∧ Hid (i + (((ss.drop i).take (k + 2 - i)).takeWhile sgB).length = E)) (fun v _ => ss.length - (intOf v).toNat)
 case atStart => exact ⟨k, hk, zo, by omega, rfl, by rw [Nat.sub_self]; rfl, hE⟩
 obtain ⟨i, hi, hki, hi2, rfl, rfl, hv⟩ := hrel
 clear hE
 have hw1 : IntKind.i64.wrap ((i : Int) + 1) = (i : Int) + 1 := by rw [IntKind.wrap_i64]; omega
 have hw3 : IntKind.i64.wrap (((i - k : Nat) : Int) + 1) = ((i + 1 - k : Nat) : Int) := by rw [IntKind.wrap_i64]; omega
 by_cases hlt2 : i < k + 2
 ·have hltJ : ((i - k : Nat) : Int) < 2 := by omega
  by_cases hlt : i < ss.length
  ·have hltI : (i : Int) < (ss.length : Int) := by omega
   have hat := Zbd ss hb i hlt
   have hs := Zpk ss k i hlt hlt2
   cases hg : sgB (ss.getD i 0) with
   | true =>
    have hv' : Hid ((i + 1) + (((ss.drop (i + 1)).take (k + 2 - (i + 1))).takeWhile sgB).length = E) := by
     show _ = _
     rw [hg, if_pos rfl] at hs
     have := hv.out
     omega
    clear hs hv
    generalize ss.getD i 0 = c at *
    generalize ((i - k : Nat) : Int) = d at *
    go_wp2_with (go_at_call 78; refine (Zd3 hg _).mono ?_; rintro e w' ⟨rfl, rfl⟩)
    go_round
    case rel => exact ⟨i + 1, by omega, by omega, by omega, by go_num, rfl, hv'⟩
    case measure => simp [intOf]; omega
   | false =>
    have hv' : Hid (i = E) := by
     show _ = _
     rw [hg, if_neg (by decide)] at hs
     have := hv.out
     omega
    clear hs hv
    generalize ss.getD i 0 = c at *
    generalize ((i - k : Nat) : Int) = d at *
    go_wp2_with (go_at_call 78; refine (Zd3 hg _).mono ?_; rintro e w' ⟨rfl, rfl⟩)
    go_ret
    exact ⟨Zby (by rw [hv'.out]), rfl⟩
  have hltI : ¬ (i : Int) < (ss.length : Int) := by omega
  have hv' : Hid (i = E) := by
   show _ = _
   have := hv.out
   rw [List.drop_of_length_le (by omega)] at this
   simpa using this
  generalize ((i - k : Nat) : Int) = d at *
  go_wp2
  go_ret
  exact ⟨Zby (by rw [hv'.out]), rfl⟩
 have hltJ : ¬ ((i - k : Nat) : Int) < 2 := by omega
 have hv' : Hid (i = E) := by
  show _ = _
  have := hv.out
  rw [show k + 2 - i = 0 by omega] at this
  simpa using this
 generalize ((i - k : Nat) : Int) = d at *
 go_wp2
 go_ret
 exact ⟨Zby (by rw [hv'.out]), rfl⟩
def RQ (k : Nat) (o : Option (List Int × Nat)) : Ending := match o with
 | none => .returned (.tuple #[.string (strOfNums []), .int .i64 (-1)])
 | some (t, n) => .returned (.tuple #[.string (strOfNums t), .int .i64 (k + n : Nat)])
theorem rq_shape (k : Nat) (o : Option (List Int × Nat)) : ∃ s m, RQ k o = .returned (.tuple #[.string s, .int .i64 m]) := by
 cases o with
 | none => exact ⟨_, _, rfl⟩
 | some x => exact ⟨_, _, rfl⟩
def cutQ (o : Option (List Int × Nat)) : Option (List Int × Nat) := match o with
 | none => none
 | some (t, n) => if t.length ≤ 1024 then some (t, n + 1) else none
theorem qtW_cut (r : List Int) : qtW r = cutQ (qtR (r.drop 1)) := by
 unfold qtW cutQ
 cases qtR (r.drop 1) <;> rfl
def rqO (ss : List Int) (k : Nat) : Option (List Int × Nat) := if ss.getD k 0 = 39 then qtW (ss.drop k) else none
theorem Zp6 (w : World) (c : Int) (hc : 0 ≤ c ∧ c < 256) : IsB (w.alloc (.cells #[.int .u8 c] 5)) (some ⟨w.heap.size, 0, none⟩) 1 1 [c] :=
 Zhe w #[.int .u8 c] [c] 1 rfl (by decide) rfl (fun x hx => by rw [List.mem_singleton.1 hx]; exact hc) (0, 0)
theorem Zgz (ss : List Int) (k : Nat) (w : World) (hb : ∀ x ∈ ss, 0 ≤ x ∧ x < 256) (hl : ss.length ≤ 10000000) : Calls Tryz.prog 75 #[.string (strOfNums ss), .int .i64 k] w fun e w' => e = RQ k (rqO ss k) ∧ Below w.heap.size w w' := by
 have hsz : (strOfNums ss).size = ss.length := strOfNums_size ss
 have h1 := fun w => Zg1 ss k w hb
 unfold rqO
 by_cases h39 : ss.getD k 0 = 39
 ·have hk : k < ss.length := by
   rcases Nat.lt_or_ge k ss.length with h | h
   ·exact h
   have e : ss.getD k 0 = 0 := by simp only [List.getD_eq_getElem?_getD]; rw [List.getElem?_eq_none h]; rfl
   rw [e] at h39
   exact absurd h39 (by decide)
  rw [if_pos h39]
  rw [h39] at h1
  have hw0 : IntKind.i64.wrap ((k : Int) + 1) = (k : Int) + 1 := by rw [IntKind.wrap_i64]; omega
  obtain ⟨O, hO⟩ : ∃ O, Hid (qtR (ss.drop (k + 1)) = O) := ⟨_, rfl⟩
  have hW : qtW (ss.drop k) = (cutQ O) := by
   rw [qtW_cut, List.drop_drop, hO.out]
  rw [hW]
  obtain ⟨R, hR⟩ : ∃ R, Hid (RQ k (cutQ O) = R) := ⟨_, rfl⟩
  rw [hR.out]
  clear hW h39
  go_enter Tryz.func75, Tryz.ntmps75
  go_wp2_with (go_at_call 76; refine (h1 _).mono ?_; rintro e w' ⟨rfl, rfl⟩)
  go_loopw [1, 6] (fun v x wr => ∃ (i : Nat) (acc : List Int), v = .int .i64 i ∧ k + 1 ≤ i ∧ i ≤ ss.length ∧ acc.length ≤ i ∧ (∀ x ∈ acc, 0 ≤ x ∧ x < 256) ∧ Zdp wr w.heap.size x acc ∧ Below w.heap.size w wr ∧ Hid (O = Zfa acc (i - (k + 1)) (qtR (ss.drop i)))) (fun v _ _ => ss.length - (intOf v).toNat)
  case atStart =>
   refine ⟨k + 1, [], by go_num, zo, hk, Nat.zero_le _, fun x hx => absurd hx List.not_mem_nil, Zbq (World.ownsRow_nil _ _ _ _) (fun x hx => absurd hx List.not_mem_nil), Below.refl _ _, ?_⟩
   show _ = _
   rw [hO.out, Nat.sub_self]
   unfold Zfa
   cases O with
   | none => rfl
   | some x => simp
  obtain ⟨i, acc, rfl, hi1, hi2, hal, hab, hI, hB, hv⟩ := hrel
  clear hO h1
  have hsw := hB.size
  have hw1 : IntKind.i64.wrap ((i : Int) + 1) = (i : Int) + 1 := by rw [IntKind.wrap_i64]; omega
  have hw2 : IntKind.i64.wrap ((i : Int) + 1 + 1) = (i : Int) + 1 + 1 := by rw [IntKind.wrap_i64]; omega
  have h2 := fun w => Zg1 ss (i + 1) w hb
  rw [show ((i + 1 : Nat) : Int) = (i : Int) + 1 by omega] at h2
  by_cases hlt : i < ss.length
  ·have hltI : (i : Int) < (ss.length : Int) := by omega
   have hat := Zbd ss hb i hlt
   have hcb := hb (ss.getD i 0) (by rw [Zbn hlt]; exact List.getElem_mem hlt)
   by_cases h39 : ss.getD i 0 = 39
   ·rw [h39] at hat
    by_cases hd : ss.getD (i + 1) 0 = 39
    ·have h1l : i + 1 < ss.length := by
      rcases Nat.lt_or_ge (i + 1) ss.length with h | h
      ·exact h
      have e : ss.getD (i + 1) 0 = 0 := by simp only [List.getD_eq_getElem?_getD]; rw [List.getElem?_eq_none h]; rfl
      rw [e] at hd
      exact absurd hd (by decide)
     have hv' : Hid (O = Zfa (acc ++ [39]) (i + 2 - (k + 1)) (qtR (ss.drop (i + 2)))) := by
      show _ = _
      rw [hv.out, qt_two ss i h1l h39 hd]
      unfold Zfa
      cases qtR (ss.drop (i + 2)) with
      | none => rfl
      | some x => simp; omega
     clear hv
     have hat1 := Zbd ss hb (i + 1) h1l
     rw [hd] at hat1 h2
     have hK : (i : Int) + 1 < (ss.length : Int) := by omega
     have hto : ((i : Int) + 1).toNat = i + 1 := by omega
     obtain ⟨hown, va, vc, rfl, hIB⟩ := hI
     go_wp2_with (first | (go_at_call 76; refine (h2 _).mono ?_; rintro e w' ⟨rfl, rfl⟩) | (at_builtin; refine Zcl _ rfl _ _ rfl w.heap.size _ acc.length acc rfl ?o1 _ _ _ [39] rfl ?o2 ?o3 ?o4 ?o5 ?_))
     case o1 => exact Zg4 hown Zcz
     case o2 => exact Zp6 _ 39 (by decide)
     case o3 => omega
     case o4 => omega
     case o5 => simp; omega
     intro v' w6 hown6 hB6
     have hO6 : Zdp w6 w.heap.size v' (acc ++ [39]) := Zbq (n := acc.length + 1) (by simpa using hown6) (Zbm acc [39] hab (by decide))
     go_wp2
     go_roundw
     case rel => exact ⟨i + 2, acc ++ [39], by go_num, by omega, by omega, by simp; omega, Zbm acc [39] hab (by decide), hO6, (Zaf hB zo Zcz).trans hB6, hv'⟩
     case measure => simp [intOf]; omega
    have hv' : Hid (O = some (acc, i - k)) := by
     show _ = _
     rw [hv.out, Zpv ss i hlt h39 (.inr hd)]
     unfold Zfa
     simp
     omega
    clear hv
    generalize ss.getD (i + 1) 0 = d at *
    have hd' : (d != 39) = true := by simp [hd]
    obtain ⟨hown, va, vc, rfl, hIB⟩ := hI
    by_cases h1024 : acc.length ≤ 1024
    ·have hq : ¬ (1024 : Int) < (acc.length : Int) := by omega
     have hst := hIB.str
     have hfin : R = .returned (.tuple #[.string (strOfNums acc), .int .i64 ((i : Int) + 1)]) := by
      rw [← hR.out, hv'.out]
      simp only [cutQ, if_pos h1024, RQ]
      rw [show ((k + (i - k + 1) : Nat) : Int) = (i : Int) + 1 by omega]
     clear hR hv'
     subst hfin
     go_wp2_with (go_at_call 76; refine (h2 _).mono ?_; rintro e w' ⟨rfl, rfl⟩)
     exact bodyPost_ret (v := .tuple #[.string (strOfNums acc), .int .i64 ((i : Int) + 1)]) (by simp [results, go_sem]) rfl ⟨rfl, hB⟩
    have hq : (1024 : Int) < (acc.length : Int) := by omega
    have hfin : R = .returned (.tuple #[.string (strOfNums []), .int .i64 (-1)]) := by
     rw [← hR.out, hv'.out]
     simp only [cutQ, if_neg h1024, RQ]
    clear hR hv'
    subst hfin
    go_wp2_with (go_at_call 76; refine (h2 _).mono ?_; rintro e w' ⟨rfl, rfl⟩)
    exact bodyPost_ret (v := .tuple #[.string (strOfNums []), .int .i64 (-1)]) (by simp [results, go_sem]; rfl) rfl ⟨rfl, hB⟩
   have hv' : Hid (O = Zfa (acc ++ [ss.getD i 0]) (i + 1 - (k + 1)) (qtR (ss.drop (i + 1)))) := by
    show _ = _
    rw [hv.out, Zm0 ss i hlt h39]
    unfold Zfa
    cases qtR (ss.drop (i + 1)) with
    | none => rfl
    | some x => simp; omega
   clear hv
   generalize ss.getD i 0 = c at *
   have h39' : (c == 39) = false := by simp [h39]
   have hc1 : ∀ x ∈ [c], 0 ≤ x ∧ x < 256 := fun x hx => by rw [List.mem_singleton.1 hx]; exact hcb
   obtain ⟨hown, va, vc, rfl, hIB⟩ := hI
   go_wp2_with (at_builtin; refine Zcl _ rfl _ _ rfl w.heap.size _ acc.length acc rfl ?o1 _ _ _ [c] rfl ?o2 ?o3 ?o4 ?o5 ?_)
   case o1 => exact Zg4 hown Zcz
   case o2 => exact Zp6 _ c hcb
   case o3 => omega
   case o4 => omega
   case o5 => simp; omega
   intro v' w6 hown6 hB6
   have hO6 : Zdp w6 w.heap.size v' (acc ++ [c]) := Zbq (n := acc.length + 1) (by simpa using hown6) (Zbm acc [c] hab hc1)
   go_wp2
   go_roundw
   case rel => exact ⟨i + 1, acc ++ [c], by go_num, by omega, by omega, by simp; omega, Zbm acc [c] hab hc1, hO6, (Zaf hB zo Zcz).trans hB6, hv'⟩
   case measure => simp [intOf]; omega
  have hltI : ¬ (i : Int) < (ss.length : Int) := by omega
  have hfin : R = .returned (.tuple #[.string (strOfNums []), .int .i64 (-1)]) := by
   rw [← hR.out, hv.out, qt_end ss i (by omega)]
   rfl
  clear hR hv
  subst hfin
  go_wp2
  exact bodyPost_ret (v := .tuple #[.string (strOfNums []), .int .i64 (-1)]) (by simp [results, go_sem]; rfl) rfl ⟨rfl, hB⟩
 rw [if_neg h39]
 generalize ss.getD k 0 = c at *
 have h39' : (c != 39) = true := by simp [h39]
 go_enter Tryz.func75, Tryz.ntmps75
 go_wp2_with (go_at_call 76; refine (h1 _).mono ?_; rintro e w' ⟨rfl, rfl⟩)
 exact bodyPost_ret (v := .tuple #[.string (strOfNums []), .int .i64 (-1)]) (by simp [results, go_sem]; rfl) rfl ⟨rfl, Below.refl _ _⟩
def rsO (ss : List Int) (k : Nat) : Option (List Int × Nat) := if 0 < Zcn (ss.drop k) then (if 1024 < Zcn (ss.drop k) then none else some ((ss.drop k).take (Zcn (ss.drop k)), Zcn (ss.drop k))) else rqO ss k
theorem Zmb (ss : List Int) (k : Nat) (w : World) (hb : ∀ x ∈ ss, 0 ≤ x ∧ x < 256) (hl : ss.length ≤ 10000000) (hk : k ≤ ss.length) : Calls Tryz.prog 77 #[.string (strOfNums ss), .int .i64 k] w fun e w' => e = RQ k (rsO ss k) ∧ Below w.heap.size w w' := by
 have hsz : (strOfNums ss).size = ss.length := strOfNums_size ss
 have hle := Zgj (ss.drop k)
 rw [List.length_drop] at hle
 have hnl := Zcp (ss.drop k)
 rw [List.length_drop] at hnl
 have hn := fun w => Zg0 ss k w hb (by omega) hk
 have hg := fun w => Zit ss k w hb (by omega) hk
 have hq := fun w => Zgz ss k w hb hl
 have hpe := Zkj (ss.drop k)
 unfold rsO
 obtain ⟨n, hnn⟩ : ∃ n, Hid (Zcn (ss.drop k) = n) := ⟨_, rfl⟩
 rw [hnn.out] at hle hpe ⊢
 have hx := Zco ss k (k + n)
 rw [show k + n - k = n by omega] at hx
 have hwd : IntKind.i64.wrap (((k + n : Nat) : Int) - (k : Int)) = (n : Int) := by rw [IntKind.wrap_i64]; omega
 have hkk : (k : Int) ≤ ((k + n : Nat) : Int) := by omega
 have hkl : ((k + n : Nat) : Int) ≤ (ss.length : Int) := by omega
 have htn : ((k + n : Nat) : Int).toNat = k + n := by omega
 by_cases hz : n = 0
 ·subst hz
  rw [if_neg (by omega)]
  have h0 : Zaq (ss.drop k) = 0 := by
   split at hpe
   ·assumption
   omega
  rw [if_pos h0] at hpe
  rw [h0, Nat.add_zero] at hn
  rw [← hpe, Nat.add_zero] at hg
  obtain ⟨s, m, hR⟩ := rq_shape k (rqO ss k)
  rw [hR] at hq ⊢
  clear hx hwd hkk hkl htn hR hpe h0 hnn hnl
  go_enter Tryz.func77, Tryz.ntmps77
  go_wp2_with (first | (go_at_call 36; refine (hn _).mono ?_; rintro e w' ⟨rfl, rfl⟩) | (go_at_call 79; refine (hg _).mono ?_; rintro e w' ⟨rfl, rfl⟩))
  refine (hq _).mono ?_
  rintro e w2 ⟨rfl, hB⟩
  go_wp2
  exact bodyPost_ret (v := .tuple #[.string s, .int .i64 m]) (by simp [results, go_sem]) rfl ⟨rfl, hB⟩
 rw [if_pos (by omega)]
 obtain ⟨R, hR⟩ : ∃ R, Hid (RQ k (if 1024 < n then none else some ((ss.drop k).take n, n)) = R) := ⟨_, rfl⟩
 rw [hR.out]
 have FIN := hR.out
 clear hq hR
 obtain ⟨M, hM⟩ : ∃ M : Nat, Hid (k + n = M) := ⟨_, rfl⟩
 have hkM : (k : Int) < (M : Int) := by have := hM.out; omega
 rw [hM.out] at hx hwd hkk hkl htn
 have FIN' : Ending.returned (.tuple #[.string (strOfNums ((ss.drop k).take n)), .int .i64 M]) = RQ k (some ((ss.drop k).take n, n)) := by
  simp only [RQ]
  rw [hM.out]
 by_cases h0 : Zaq (ss.drop k) = 0
 ·rw [if_pos h0] at hpe
  rw [h0, Nat.add_zero] at hn
  rw [← hpe, hM.out] at hg
  clear hpe h0 hnl hnn
  by_cases h1024 : 1024 < n
  ·rw [if_pos h1024] at FIN
   have hq2 : (1024 : Int) < (n : Int) := by omega
   go_enter Tryz.func77, Tryz.ntmps77
   go_wp2_with (first | (go_at_call 36; refine (hn _).mono ?_; rintro e w' ⟨rfl, rfl⟩) | (go_at_call 79; refine (hg _).mono ?_; rintro e w' ⟨rfl, rfl⟩))
   exact bodyPost_ret (v := .tuple #[.string (strOfNums []), .int .i64 (-1)]) (by simp [results, go_sem]; rfl) rfl ⟨FIN, Below.refl _ _⟩
  rw [if_neg h1024] at FIN
  have hq2 : ¬ (1024 : Int) < (n : Int) := by omega
  go_enter Tryz.func77, Tryz.ntmps77
  go_wp2_with (first | (go_at_call 36; refine (hn _).mono ?_; rintro e w' ⟨rfl, rfl⟩) | (go_at_call 79; refine (hg _).mono ?_; rintro e w' ⟨rfl, rfl⟩))
  exact bodyPost_ret (v := .tuple #[.string (strOfNums ((ss.drop k).take n)), .int .i64 M]) (by simp [results, go_sem]) rfl ⟨FIN'.trans FIN, Below.refl _ _⟩
 rw [if_neg h0] at hpe
 obtain ⟨i0, hi0⟩ : ∃ i, Hid (k + Zaq (ss.drop k) = i) := ⟨_, rfl⟩
 have hi1 : i0 ≤ ss.length := by have := hi0.out; omega
 have hE : Hid (i0 + cl (ss.drop i0) = M) := by
  show _ = _
  rw [List.drop_drop, hi0.out] at hpe
  have h1 := hi0.out
  have h2 := hM.out
  omega
 have hgt : (k : Int) < (i0 : Int) := by have := hi0.out; omega
 rw [hi0.out] at hn
 clear hi0 hpe h0 hnl hg
 go_enter Tryz.func77, Tryz.ntmps77
 go_wp2_with (go_at_call 36; refine (hn _).mono ?_; rintro e w' ⟨rfl, rfl⟩)
 go_loop [6] (fun v => ∃ i : Nat, i ≤ ss.length ∧ v = .int .i64 i ∧ Hid (i + cl (ss.drop i) = M)) (fun v => ss.length - (intOf v).toNat)
 case atStart => exact ⟨i0, hi1, rfl, hE⟩
 obtain ⟨i, hi, rfl, hv⟩ := hrel
 clear hE hn
 have hlo := fun w => Ziv ss i w hb (by omega) hi
 cases hgl : Zic (ss.drop i) with
 | false =>
  rw [hgl] at hlo
  obtain rfl : i = M := by
   have := hv.out
   rw [cl_no hgl] at this
   omega
  clear hv hgl
  by_cases h1024 : 1024 < n
  ·rw [if_pos h1024] at FIN
   have hq2 : (1024 : Int) < (n : Int) := by omega
   go_wp2_with (go_at_call 73; refine (hlo _).mono ?_; rintro e w' ⟨rfl, rfl⟩)
   exact bodyPost_ret (v := .tuple #[.string (strOfNums []), .int .i64 (-1)]) (by simp [results, go_sem]; rfl) rfl ⟨FIN, Below.refl _ _⟩
  rw [if_neg h1024] at FIN
  have hq2 : ¬ (1024 : Int) < (n : Int) := by omega
  go_wp2_with (go_at_call 73; refine (hlo _).mono ?_; rintro e w' ⟨rfl, rfl⟩)
  exact bodyPost_ret (v := .tuple #[.string (strOfNums ((ss.drop k).take n)), .int .i64 i]) (by simp [results, go_sem]) rfl ⟨FIN'.trans FIN, Below.refl _ _⟩
 | true =>
  rw [hgl] at hlo
  have hlt : i < ss.length := by
   have := Zc3 hgl
   rw [List.length_drop] at this
   omega
  have hn := fun w => Zg0 ss (i + 1) w hb (by omega) (by omega)
  have hle2 := Zcp (ss.drop (i + 1))
  rw [List.length_drop] at hle2
  have hv' : Hid ((i + 1 + Zaq (ss.drop (i + 1))) + cl (ss.drop (i + 1 + Zaq (ss.drop (i + 1)))) = M) := by
   show _ = _
   have := hv.out
   rw [cl_yes hgl, List.drop_drop, List.drop_drop] at this
   rw [← this]
   rw [show i + 1 + Zaq (ss.drop (i + 1)) = i + (1 + Zaq (ss.drop (i + 1))) by omega]
   omega
  clear hv
  have hw1 : IntKind.i64.wrap ((i : Int) + 1) = (i : Int) + 1 := by rw [IntKind.wrap_i64]; omega
  rw [show ((i + 1 : Nat) : Int) = (i : Int) + 1 by omega] at hn
  obtain ⟨j, hj⟩ : ∃ j, Hid (i + 1 + Zaq (ss.drop (i + 1)) = j) := ⟨_, rfl⟩
  have hj1 : i < j ∧ j ≤ ss.length := by have := hj.out; omega
  rw [hj.out] at hn hv'
  clear hj hle2
  go_wp2_with (first | (go_at_call 73; refine (hlo _).mono ?_; rintro e w' ⟨rfl, rfl⟩) | (go_at_call 36; refine (hn _).mono ?_; rintro e w' ⟨rfl, rfl⟩))
  go_round
  case rel => exact ⟨j, hj1.2, rfl, hv'⟩
  case measure => simp [intOf]; omega
end Go.Proofs.YtncfmhlikmibaaaGreatDoor
