/- strings.CutPrefix by -, and plain. -/
import Derived.Test.YtlhmeipbcioncaaDoorDigMath
namespace Go.Proofs.YtlhmeipbcioncaaDoor
open Go.RowKit

theorem str_at (ss : List Int) (hb : ∀ x ∈ ss, 0 ≤ x ∧ x < 256) (k : Nat) (hk : k < ss.length) : ∀ hp : k < (strOfNums ss).size, (((strOfNums ss)[k]'hp).toNat : Int) = ss.getD k 0 := by
  intro hp
  have h := hb ss[k] (List.getElem_mem hk)
  show (((strOfNums ss).data[k]'hp).toNat : Int) = _
  have e : (strOfNums ss).data[k]'hp = UInt8.ofNat (ss[k]).toNat := by simp [strOfNums]
  rw [e, UInt8.toNat_ofNat', Nat.mod_eq_of_lt (by omega)]
  simp [hk]
  omega
theorem lit45 : (⟨#[45]⟩ : ByteArray).toList = [45] := by
  show (strOfNums [45]).toList = _
  rw [Lib.strOfNums_toList]; rfl
theorem lit48 : (⟨#[48]⟩ : ByteArray).toList = [48] := by
  show (strOfNums [48]).toList = _
  rw [Lib.strOfNums_toList]; rfl
theorem str_first (c : Int) (r : List Int) : ((strOfNums (c :: r)).extract 0 1).toList = [UInt8.ofNat c.toNat] := by
  have : (strOfNums (c :: r)).extract 0 1 = strOfNums [c] := by
    apply ByteArray.ext
    simp [strOfNums, ByteArray.data_extract]
  rw [this, Lib.strOfNums_toList]; rfl

set_option maxRecDepth 100000 in
set_option maxHeartbeats 2000000 in
theorem hasPrefix_any (ss : List Int) (w : World) (hb : ∀ x ∈ ss, 0 ≤ x ∧ x < 256) (hm : ss.length ≤ 9223372036854775807) :
    Calls Tryd.prog 86 #[.string (strOfNums ss), .string ⟨#[45]⟩] w fun e w' => e = .returned (.bool (rdNeg ss)) ∧ w = w' := by
  have hp : (⟨#[45]⟩ : ByteArray).size = 1 := rfl
  cases ss with
  | nil =>
    have h0 : (strOfNums []).size = 0 := rfl
    go_enter Tryd.func86, Tryd.ntmps86
    go_wp2
    go_ret
    exact ⟨rfl, rfl⟩
  | cons c r =>
    have hsz : (strOfNums (c :: r)).size = r.length + 1 := by rw [strOfNums_size]; rfl
    have hc := hb c (by simp)
    have hf := str_first c r
    have hl : (⟨#[45]⟩ : ByteArray).toList = [45] := lit45
    simp only [List.length_cons] at hm
    have hq : ([UInt8.ofNat c.toNat] == [(45 : UInt8)]) = rdNeg (c :: r) := by
      unfold rdNeg
      simp only [List.getD_cons_zero]
      by_cases h45 : c = 45
      · subst h45; rfl
      · have h1 : (c == 45) = false := by simpa using h45
        rw [h1]
        have h2 : UInt8.ofNat c.toNat ≠ 45 := by
          intro e
          have := congrArg UInt8.toNat e
          rw [UInt8.toNat_ofNat', Nat.mod_eq_of_lt (by omega)] at this
          have h3 : (45 : UInt8).toNat = 45 := rfl
          omega
        simpa using h2
    go_enter Tryd.func86, Tryd.ntmps86
    go_wp2
    go_ret
    exact ⟨rfl, rfl⟩

theorem rdD_cons (c : Int) (r : List Int) : rdD (c :: r) = if c == 45 then r else c :: r := by unfold rdD rdNeg; simp
set_option maxRecDepth 100000 in
set_option maxHeartbeats 2000000 in
theorem cutIn_any (ss : List Int) (w : World) (hb : ∀ x ∈ ss, 0 ≤ x ∧ x < 256) (hm : ss.length ≤ 9223372036854775807) :
    Calls Tryd.prog 78 #[.string (strOfNums ss), .string ⟨#[45]⟩] w fun e w' => e = .returned (.tuple #[.string (strOfNums (rdD ss)), .bool (rdNeg ss)]) ∧ w = w' := by
  have hp : (⟨#[45]⟩ : ByteArray).size = 1 := rfl
  go_enter Tryd.func78, Tryd.ntmps78
  go_wp2_with fail
  refine (hasPrefix_any ss w hb hm).mono ?_
  rintro e w1 ⟨rfl, rfl⟩
  cases hn : rdNeg ss with
  | false =>
    have hD : Hid (rdD ss = ss) := by show _ = _; unfold rdD; rw [hn]; rfl
    go_wp2
    go_ret2
    exact ⟨by rw [hD.out, hn]; rfl, rfl⟩
  | true =>
    cases ss with
    | nil => simp [rdNeg] at hn
    | cons c r =>
      have hD : Hid (rdD (c :: r) = r) := by show _ = _; unfold rdD; rw [hn]; rfl
      have hsz : (strOfNums (c :: r)).size = r.length + 1 := by rw [strOfNums_size]; rfl
      have ht := str_tail c r
      simp only [List.length_cons] at hm
      go_wp2
      go_ret2
      exact ⟨by rw [hD.out, ← ht, hn]; rfl, rfl⟩
set_option maxRecDepth 100000 in
set_option maxHeartbeats 2000000 in
theorem cut_any (ss : List Int) (w : World) (hb : ∀ x ∈ ss, 0 ≤ x ∧ x < 256) (hm : ss.length ≤ 9223372036854775807) :
    Calls Tryd.prog 65 #[.string (strOfNums ss), .string ⟨#[45]⟩] w fun e w' => e = .returned (.tuple #[.string (strOfNums (rdD ss)), .bool (rdNeg ss)]) ∧ w = w' := by
  go_enter Tryd.func65, Tryd.ntmps65
  go_wp2_with fail
  refine (cutIn_any ss w hb hm).mono ?_
  rintro e w1 ⟨rfl, rfl⟩
  go_wp2
  go_ret2
  exact ⟨rfl, rfl⟩

/-- plain's answer. -/
def plainB (d : List Int) : Bool := decide (d ≠ []) && !(decide (1 < d.length) && d.getD 0 0 == 48) && digB d
theorem digB_take (d : List Int) (k : Nat) (hk : k < d.length) : digB (d.take (k + 1)) = (digB (d.take k) && (decide (48 ≤ d.getD k 0) && decide (d.getD k 0 ≤ 57))) := by
  unfold digB
  rw [List.take_succ_eq_append_getElem hk, List.all_append]
  simp [hk]
theorem digB_false (d : List Int) (k : Nat) (hk : k < d.length) (h : ¬ (48 ≤ d.getD k 0 ∧ d.getD k 0 ≤ 57)) : digB d = false := by
  rw [Bool.eq_false_iff]
  intro hd
  refine h ((digB_iff d).1 hd _ ?_)
  have : d.getD k 0 = d[k] := by simp [hk]
  rw [this]
  exact List.getElem_mem hk
set_option maxRecDepth 100000 in
set_option maxHeartbeats 2000000 in
theorem plain_any (d : List Int) (w : World) (hb : ∀ x ∈ d, 0 ≤ x ∧ x < 256) (hm : d.length ≤ 9223372036854775807) :
    Calls Tryd.prog 66 #[.string (strOfNums d)] w fun e w' => e = .returned (.bool (plainB d)) ∧ w = w' := by
  have hE : (⟨#[]⟩ : ByteArray).toList = [] := by
    show (strOfNums []).toList = _
    rw [Lib.strOfNums_toList]; rfl
  have hsz : (strOfNums d).size = d.length := strOfNums_size d
  by_cases h0 : d = []
  · subst h0
    have h0 : (strOfNums []).toList = [] := by rw [Lib.strOfNums_toList]; rfl
    go_enter Tryd.func66, Tryd.ntmps66
    go_wp2
    go_ret
    exact ⟨rfl, rfl⟩
  · have hne : (strOfNums d).toList.isEmpty = false := by
      rw [Lib.strOfNums_toList]
      cases d with
      | nil => exact absurd rfl h0
      | cons c r => rfl
    have hne2 : ¬ (strOfNums d).toList = [] := by
      rw [Lib.strOfNums_toList]
      cases d with
      | nil => exact absurd rfl h0
      | cons c r => simp [Lib.bytesOf]
    have hpos : 0 < d.length := List.length_pos_iff.2 h0
    have hat0 := str_at d hb 0 hpos
    obtain ⟨c0, hc0⟩ : ∃ c, d.getD 0 0 = c := ⟨_, rfl⟩
    rw [hc0] at hat0
    by_cases hz : 1 < d.length ∧ c0 = 48
    · have hr : Hid (plainB d = false) := by show _ = _; unfold plainB; rw [hc0, hz.2, decide_eq_true hz.1]; simp
      obtain ⟨hz1, rfl⟩ := hz
      have hz1' : (1 : Int) < (d.length : Int) := by omega
      go_enter Tryd.func66, Tryd.ntmps66
      go_wp2
      go_ret
      exact ⟨ret_bool (by rw [hr.out]), rfl⟩
    · have hr : Hid (plainB d = digB d) := by
        show _ = _
        unfold plainB
        rw [hc0, decide_eq_true h0]
        by_cases h1 : 1 < d.length
        · have : (c0 == 48) = false := by simpa using fun e => hz ⟨h1, e⟩
          rw [this]; simp
        · rw [decide_eq_false h1]; simp
      have hz' : ((d.length : Int) ≤ 1) ∨ (c0 == 48) = false := by
        by_cases h1 : 1 < d.length
        · exact .inr (by simpa using fun e => hz ⟨h1, e⟩)
        · exact .inl (by omega)
      rcases hz' with hz1 | hz1
      · have hz2 : ¬ (1 : Int) < (d.length : Int) := by omega
        go_enter Tryd.func66, Tryd.ntmps66
        go_wp2
        go_loop [18] (fun n => ∃ k : Nat, k ≤ d.length ∧ n = .int .i64 k ∧ Hid (digB (d.take k) = true)) (fun n => d.length - (intOf n).toNat)
        case atStart => exact ⟨0, Nat.zero_le _, rfl, rfl⟩
        case round =>
          obtain ⟨k, hk, rfl, hv⟩ := hrel
          clear hat0
          by_cases hlt : k < d.length
          · have hltI : (k : Int) < (d.length : Int) := by omega
            have hat := str_at d hb k hlt
            have hcb := hb (d.getD k 0) (by rw [show d.getD k 0 = d[k] by simp [hlt]]; exact List.getElem_mem hlt)
            have ht := digB_take d k hlt
            have hF := digB_false d k hlt
            obtain ⟨c, hc⟩ : ∃ c, d.getD k 0 = c := ⟨_, rfl⟩
            rw [hc] at hat hcb ht hF
            have Ht : Hid (digB (d.take (k + 1)) = (digB (d.take k) && (decide (48 ≤ c) && decide (c ≤ 57)))) := ht
            have HF : Hid (¬ (48 ≤ c ∧ c ≤ 57) → digB d = false) := hF
            clear ht hF hc
            by_cases h1 : c < 48
            · have hf : Hid (digB d = false) := HF.out (by omega)
              go_wp2
              go_ret
              exact ⟨ret_bool (by rw [hr.out, hf.out]), rfl⟩
            · by_cases h2 : 57 < c
              · have hf : Hid (digB d = false) := HF.out (by omega)
                go_wp2
                go_ret
                exact ⟨ret_bool (by rw [hr.out, hf.out]), rfl⟩
              · have hnx : Hid (digB (d.take (k + 1)) = true) := by show _ = _; rw [Ht.out, hv.out, decide_eq_true (by omega), decide_eq_true (by omega)]; rfl
                go_wp2
                go_round
                case rel => exact ⟨k + 1, by omega, by go_num, hnx⟩
                case measure => simp [intOf]; omega
          · obtain rfl : k = d.length := by omega
            have hf : Hid (digB d = true) := by have := hv.out; rwa [List.take_length] at this
            have hltI : ¬ (d.length : Int) < (d.length : Int) := by omega
            go_wp2
            go_ret
            exact ⟨ret_bool (by rw [hr.out, hf.out]), rfl⟩
      · by_cases hz3 : (1 : Int) < (d.length : Int)
        · go_enter Tryd.func66, Tryd.ntmps66
          go_wp2
          go_loop [18] (fun n => ∃ k : Nat, k ≤ d.length ∧ n = .int .i64 k ∧ Hid (digB (d.take k) = true)) (fun n => d.length - (intOf n).toNat)
          case atStart => exact ⟨0, Nat.zero_le _, rfl, rfl⟩
          case round =>
            obtain ⟨k, hk, rfl, hv⟩ := hrel
            clear hat0
            by_cases hlt : k < d.length
            · have hltI : (k : Int) < (d.length : Int) := by omega
              have hat := str_at d hb k hlt
              have hcb := hb (d.getD k 0) (by rw [show d.getD k 0 = d[k] by simp [hlt]]; exact List.getElem_mem hlt)
              have ht := digB_take d k hlt
              have hF := digB_false d k hlt
              obtain ⟨c, hc⟩ : ∃ c, d.getD k 0 = c := ⟨_, rfl⟩
              rw [hc] at hat hcb ht hF
              have Ht : Hid (digB (d.take (k + 1)) = (digB (d.take k) && (decide (48 ≤ c) && decide (c ≤ 57)))) := ht
              have HF : Hid (¬ (48 ≤ c ∧ c ≤ 57) → digB d = false) := hF
              clear ht hF hc
              by_cases h1 : c < 48
              · have hf : Hid (digB d = false) := HF.out (by omega)
                go_wp2
                go_ret
                exact ⟨ret_bool (by rw [hr.out, hf.out]), rfl⟩
              · by_cases h2 : 57 < c
                · have hf : Hid (digB d = false) := HF.out (by omega)
                  go_wp2
                  go_ret
                  exact ⟨ret_bool (by rw [hr.out, hf.out]), rfl⟩
                · have hnx : Hid (digB (d.take (k + 1)) = true) := by show _ = _; rw [Ht.out, hv.out, decide_eq_true (by omega), decide_eq_true (by omega)]; rfl
                  go_wp2
                  go_round
                  case rel => exact ⟨k + 1, by omega, by go_num, hnx⟩
                  case measure => simp [intOf]; omega
            · obtain rfl : k = d.length := by omega
              have hf : Hid (digB d = true) := by have := hv.out; rwa [List.take_length] at this
              have hltI : ¬ (d.length : Int) < (d.length : Int) := by omega
              go_wp2
              go_ret
              exact ⟨ret_bool (by rw [hr.out, hf.out]), rfl⟩
        · go_enter Tryd.func66, Tryd.ntmps66
          go_wp2
          go_loop [18] (fun n => ∃ k : Nat, k ≤ d.length ∧ n = .int .i64 k ∧ Hid (digB (d.take k) = true)) (fun n => d.length - (intOf n).toNat)
          case atStart => exact ⟨0, Nat.zero_le _, rfl, rfl⟩
          case round =>
            obtain ⟨k, hk, rfl, hv⟩ := hrel
            clear hat0
            by_cases hlt : k < d.length
            · have hltI : (k : Int) < (d.length : Int) := by omega
              have hat := str_at d hb k hlt
              have hcb := hb (d.getD k 0) (by rw [show d.getD k 0 = d[k] by simp [hlt]]; exact List.getElem_mem hlt)
              have ht := digB_take d k hlt
              have hF := digB_false d k hlt
              obtain ⟨c, hc⟩ : ∃ c, d.getD k 0 = c := ⟨_, rfl⟩
              rw [hc] at hat hcb ht hF
              have Ht : Hid (digB (d.take (k + 1)) = (digB (d.take k) && (decide (48 ≤ c) && decide (c ≤ 57)))) := ht
              have HF : Hid (¬ (48 ≤ c ∧ c ≤ 57) → digB d = false) := hF
              clear ht hF hc
              by_cases h1 : c < 48
              · have hf : Hid (digB d = false) := HF.out (by omega)
                go_wp2
                go_ret
                exact ⟨ret_bool (by rw [hr.out, hf.out]), rfl⟩
              · by_cases h2 : 57 < c
                · have hf : Hid (digB d = false) := HF.out (by omega)
                  go_wp2
                  go_ret
                  exact ⟨ret_bool (by rw [hr.out, hf.out]), rfl⟩
                · have hnx : Hid (digB (d.take (k + 1)) = true) := by show _ = _; rw [Ht.out, hv.out, decide_eq_true (by omega), decide_eq_true (by omega)]; rfl
                  go_wp2
                  go_round
                  case rel => exact ⟨k + 1, by omega, by go_num, hnx⟩
                  case measure => simp [intOf]; omega
            · obtain rfl : k = d.length := by omega
              have hf : Hid (digB d = true) := by have := hv.out; rwa [List.take_length] at this
              have hltI : ¬ (d.length : Int) < (d.length : Int) := by omega
              go_wp2
              go_ret
              exact ⟨ret_bool (by rw [hr.out, hf.out]), rfl⟩
end Go.Proofs.YtlhmeipbcioncaaDoor
