/- Read, of the program. -/
import Derived.Test.YtncfmhlikmibaaaGreatDoorAdd
import Derived.Test.YtncfmhlikmibaaaGreatDoorIsB
namespace Go.Proofs.YtncfmhlikmibaaaGreatDoor
open Go.RowKit
set_option maxRecDepth 100000
set_option maxHeartbeats 16000000

def Zb2 (d : List Int) : Nat := d.foldl (fun a c => a * 10 + (c - 48).toNat) 0
def Digs (d : List Int) : Prop := ∀ c ∈ d, 48 ≤ c ∧ c ≤ 57

theorem Znp (d : List Int) (c : Int) : Zb2 (d ++ [c]) = Zb2 d * 10 + (c - 48).toNat := by unfold Zb2; rw [List.foldl_append]; rfl
theorem Zgs : ∀ (d : List Int) (a : Nat), d.foldl (fun a c => a * 10 + (c - 48).toNat) a = a * 10 ^ d.length + Zb2 d
 | [], a => by simp [Zb2]
 | c :: r, a => by
  rw [List.foldl_cons, Zgs r]
  unfold Zb2
  rw [List.foldl_cons, Zgs r (0 * 10 + (c - 48).toNat), List.length_cons, Nat.pow_succ, Nat.add_mul, Nat.mul_assoc a, Nat.mul_comm 10]
  simp only [Nat.zero_mul, Nat.zero_add, Nat.add_assoc]
  rfl
theorem Znq (c : Int) (r : List Int) : Zb2 (c :: r) = (c - 48).toNat * 10 ^ r.length + Zb2 r := by
 unfold Zb2; rw [List.foldl_cons, Zgs r]
 simp
 rfl
theorem Zmv : ∀ (d : List Int), Digs d → Zb2 d < 10 ^ d.length
 | [], _ => by simp [Zb2]
 | c :: r, h => by
  have h0 := h c (by simp)
  have ih := Zmv r (fun x hx => h x (by simp [hx]))
  rw [Znq, List.length_cons, Nat.pow_succ]
  have : (c - 48).toNat * 10 ^ r.length ≤ 9 * 10 ^ r.length := Nat.mul_le_mul_right _ (by omega)
  omega
def Zea (ss : List Int) : Bool := ss.getD 0 0 == 45
def rdD (ss : List Int) : List Int := if Zea ss then ss.drop 1 else ss
def Zc8 (d : List Int) : Bool := d.all fun c => decide (48 ≤ c) && decide (c ≤ 57)
def Zpt (ss : List Int) : Bool := decide (rdD ss ≠ []) && (!((rdD ss).getD 0 0 == 48) || decide (ss.length = 1)) && Zc8 (rdD ss)
def rdB (ss : List Int) : Bool := if Zpt ss then if ss.length ≤ 400 then Zqv (Zea ss) (Zb2 (rdD ss)) else false else false
def rdE (ss : List Int) : Int := if Zpt ss then if ss.length ≤ 400 then Zqu (Zb2 (rdD ss)) else 24 else 11
def rdM (ss : List Int) : List Int := if Zpt ss then if ss.length ≤ 400 then Zqt (Zb2 (rdD ss)) else [] else []
theorem Zkp (d : List Int) : Zc8 d = true ↔ Digs d := by
 unfold Zc8 Digs
 rw [List.all_eq_true]
 constructor
 ·intro h c hc
  have := h c hc
  simp at this
  exact this
 intro h c hc
 have := h c hc
 simp [this]
def txt (n : Bool) (V : Nat) : List Int := if V = 0 then [48] else (if n then [45] else []) ++ dec V
theorem Zpu (ss : List Int) : (rdD ss).length ≤ ss.length := by
 unfold rdD; split
 ·simp
 exact Nat.le_refl _


theorem Zbd (ss : List Int) (hb : ∀ x ∈ ss, 0 ≤ x ∧ x < 256) (k : Nat) (hk : k < ss.length) : ∀ hp : k < (strOfNums ss).size, (((strOfNums ss)[k]'hp).toNat : Int) = ss.getD k 0 := by
 intro hp
 have h := hb ss[k] (List.getElem_mem hk)
 show (((strOfNums ss).data[k]'hp).toNat : Int) = _
 have e : (strOfNums ss).data[k]'hp = UInt8.ofNat (ss[k]).toNat := by simp [strOfNums]
 rw [e, UInt8.toNat_ofNat', Nat.mod_eq_of_lt (by omega)]
 simp [hk]
 omega
theorem lit45 : (⟨#[45]⟩ : ByteArray).toList = [45] := by
 show (strOfNums [45]).toList = _
 rw [Lib.strOfNums_toList]; rfl
theorem lit48 : (⟨#[48]⟩ : ByteArray).toList = [48] := by
 show (strOfNums [48]).toList = _
 rw [Lib.strOfNums_toList]; rfl
theorem Zpi (c : Int) (r : List Int) : ((strOfNums (c :: r)).extract 0 1).toList = [UInt8.ofNat c.toNat] := by
 have : (strOfNums (c :: r)).extract 0 1 = strOfNums [c] := by
  apply ByteArray.ext
  simp [strOfNums, ByteArray.data_extract]
 rw [this, Lib.strOfNums_toList]; rfl

set_option maxRecDepth 100000 in
theorem Zko (ss : List Int) (w : World) (hb : ∀ x ∈ ss, 0 ≤ x ∧ x < 256) (hm : ss.length ≤ 9223372036854775807) :
  Calls Tryz.prog 143 #[.string (strOfNums ss), .string ⟨#[45]⟩] w fun e w' => e = .returned (.bool (Zea ss)) ∧ w = w' := by
 have hp : (⟨#[45]⟩ : ByteArray).size = 1 := rfl
 cases ss with
 | nil =>
  have h0 : (strOfNums []).size = 0 := rfl
  go_enter Tryz.func143, Tryz.ntmps143
  go_wp2
  go_ret
  exact ⟨rfl, rfl⟩
 | cons c r =>
  have hsz : (strOfNums (c :: r)).size = r.length + 1 := by rw [strOfNums_size]; rfl
  have hc := hb c (by simp)
  have hf := Zpi c r
  have hl : (⟨#[45]⟩ : ByteArray).toList = [45] := lit45
  simp only [List.length_cons] at hm
  have hq : ([UInt8.ofNat c.toNat] == [(45 : UInt8)]) = Zea (c :: r) := by
   unfold Zea
   simp only [List.getD_cons_zero]
   by_cases h45 : c = 45
   ·subst h45; rfl
   have h1 : (c == 45) = false := by simpa using h45
   rw [h1]
   have h2 : UInt8.ofNat c.toNat ≠ 45 := by
    intro e
    have := congrArg UInt8.toNat e
    rw [UInt8.toNat_ofNat', Nat.mod_eq_of_lt (by omega)] at this
    have h3 : (45 : UInt8).toNat = 45 := rfl
    omega
   simpa using h2
  go_enter Tryz.func143, Tryz.ntmps143
  go_wp2
  go_ret
  exact ⟨rfl, rfl⟩

set_option maxRecDepth 100000 in
theorem Zra (ss : List Int) (w : World) (hb : ∀ x ∈ ss, 0 ≤ x ∧ x < 256) (hm : ss.length ≤ 9223372036854775807) :
  Calls Tryz.prog 130 #[.string (strOfNums ss), .string ⟨#[45]⟩] w fun e w' => e = .returned (.tuple #[.string (strOfNums (rdD ss)), .bool (Zea ss)]) ∧ w = w' := by
 have hp : (⟨#[45]⟩ : ByteArray).size = 1 := rfl
 go_enter Tryz.func130, Tryz.ntmps130
 go_wp2_with fail
 refine (Zko ss w hb hm).mono ?_
 rintro e w1 ⟨rfl, rfl⟩
 cases hn : Zea ss with
 | false =>
  have hD : Hid (rdD ss = ss) := by show _ = _; unfold rdD; rw [hn]; rfl
  go_wp2
  go_ret2
  exact ⟨by rw [hD.out, hn]; rfl, rfl⟩
 | true =>
  cases ss with
  | nil => simp [Zea] at hn
  | cons c r =>
   have hD : Hid (rdD (c :: r) = r) := by show _ = _; unfold rdD; rw [hn]; rfl
   have hsz : (strOfNums (c :: r)).size = r.length + 1 := by rw [strOfNums_size]; rfl
   have ht := Zmx c r
   simp only [List.length_cons] at hm
   go_wp2
   go_ret2
   exact ⟨by rw [hD.out, ← ht, hn]; rfl, rfl⟩
set_option maxRecDepth 100000 in
theorem cut_any (ss : List Int) (w : World) (hb : ∀ x ∈ ss, 0 ≤ x ∧ x < 256) (hm : ss.length ≤ 9223372036854775807) :
  Calls Tryz.prog 111 #[.string (strOfNums ss), .string ⟨#[45]⟩] w fun e w' => e = .returned (.tuple #[.string (strOfNums (rdD ss)), .bool (Zea ss)]) ∧ w = w' := by
 go_enter Tryz.func111, Tryz.ntmps111
 go_wp2_with fail
 refine (Zra ss w hb hm).mono ?_
 rintro e w1 ⟨rfl, rfl⟩
 go_wp2
 go_ret2
 exact ⟨rfl, rfl⟩

def Zec (d : List Int) : Bool := decide (d ≠ []) && !(decide (1 < d.length) && d.getD 0 0 == 48) && Zc8 d
theorem Zfe (d : List Int) (k : Nat) (hk : k < d.length) : Zc8 (d.take (k + 1)) = (Zc8 (d.take k) && (decide (48 ≤ d.getD k 0) && decide (d.getD k 0 ≤ 57))) := by
 unfold Zc8
 rw [List.take_succ_eq_append_getElem hk, List.all_append]
 simp [hk]
theorem Zfu (d : List Int) (k : Nat) (hk : k < d.length) (h : ¬ (48 ≤ d.getD k 0 ∧ d.getD k 0 ≤ 57)) : Zc8 d = false := by
 rw [Bool.eq_false_iff]
 intro hd
 refine h ((Zkp d).1 hd _ ?_)
 have : d.getD k 0 = d[k] := by simp [hk]
 rw [this]
 exact List.getElem_mem hk
set_option maxRecDepth 100000 in
theorem Zp2 (d : List Int) (w : World) (hb : ∀ x ∈ d, 0 ≤ x ∧ x < 256) (hm : d.length ≤ 9223372036854775807) :
  Calls Tryz.prog 112 #[.string (strOfNums d)] w fun e w' => e = .returned (.bool (Zec d)) ∧ w = w' := by
 have hE : (⟨#[]⟩ : ByteArray).toList = [] := by
  show (strOfNums []).toList = _
  rw [Lib.strOfNums_toList]; rfl
 have hsz : (strOfNums d).size = d.length := strOfNums_size d
 by_cases h0 : d = []
 ·subst h0
  have h0 : (strOfNums []).toList = [] := by rw [Lib.strOfNums_toList]; rfl
  go_enter Tryz.func112, Tryz.ntmps112
  go_wp2
  go_ret
  exact ⟨rfl, rfl⟩
 have hne : (strOfNums d).toList.isEmpty = false := by
  rw [Lib.strOfNums_toList]
  cases d with
  | nil => exact absurd rfl h0
  | cons c r => rfl
 have hne2 : ¬ (strOfNums d).toList = [] := by
  rw [Lib.strOfNums_toList]
  cases d with
  | nil => exact absurd rfl h0
  | cons c r => simp [Lib.bytesOf]
 have hpos : 0 < d.length := List.length_pos_iff.2 h0
 have hat0 := Zbd d hb 0 hpos
 obtain ⟨c0, hc0⟩ : ∃ c, d.getD 0 0 = c := ⟨_, rfl⟩
 rw [hc0] at hat0
 by_cases hz : 1 < d.length ∧ c0 = 48
 ·have hr : Hid (Zec d = false) := by show _ = _; unfold Zec; rw [hc0, hz.2, decide_eq_true hz.1]; simp
  obtain ⟨hz1, rfl⟩ := hz
  have hz1' : (1 : Int) < (d.length : Int) := by omega
  go_enter Tryz.func112, Tryz.ntmps112
  go_wp2
  go_ret
  exact ⟨Zbb (by rw [hr.out]), rfl⟩
 have hr : Hid (Zec d = Zc8 d) := by
  show _ = _
  unfold Zec
  rw [hc0, decide_eq_true h0]
  by_cases h1 : 1 < d.length
  ·have : (c0 == 48) = false := by simpa using fun e => hz ⟨h1, e⟩
   rw [this]; simp
  rw [decide_eq_false h1]; simp
 have hz' : ((d.length : Int) ≤ 1) ∨ (c0 == 48) = false := by
  by_cases h1 : 1 < d.length
  ·exact .inr (by simpa using fun e => hz ⟨h1, e⟩)
  exact .inl (by omega)
 rcases hz' with hz1 | hz1
 ·have hz2 : ¬ (1 : Int) < (d.length : Int) := by omega
  go_enter Tryz.func112, Tryz.ntmps112
  go_wp2
  go_loop [18] (fun n => ∃ k : Nat, k ≤ d.length ∧ n = .int .i64 k ∧ Hid (Zc8 (d.take k) = true)) (fun n => d.length - (intOf n).toNat)
  case atStart => exact ⟨0, Nat.zero_le _, rfl, rfl⟩
  obtain ⟨k, hk, rfl, hv⟩ := hrel
  clear hat0
  by_cases hlt : k < d.length
  ·have hltI : (k : Int) < (d.length : Int) := by omega
   have hat := Zbd d hb k hlt
   have hcb := hb (d.getD k 0) (by rw [show d.getD k 0 = d[k] by simp [hlt]]; exact List.getElem_mem hlt)
   have ht := Zfe d k hlt
   have hF := Zfu d k hlt
   obtain ⟨c, hc⟩ : ∃ c, d.getD k 0 = c := ⟨_, rfl⟩
   rw [hc] at hat hcb ht hF
   have Ht : Hid (Zc8 (d.take (k + 1)) = (Zc8 (d.take k) && (decide (48 ≤ c) && decide (c ≤ 57)))) := ht
   have HF : Hid (¬ (48 ≤ c ∧ c ≤ 57) → Zc8 d = false) := hF
   clear ht hF hc
   by_cases h1 : c < 48
   ·have hf : Hid (Zc8 d = false) := HF.out (by omega)
    go_wp2
    go_ret
    exact ⟨Zbb (by rw [hr.out, hf.out]), rfl⟩
   by_cases h2 : 57 < c
   ·have hf : Hid (Zc8 d = false) := HF.out (by omega)
    go_wp2
    go_ret
    exact ⟨Zbb (by rw [hr.out, hf.out]), rfl⟩
   have hnx : Hid (Zc8 (d.take (k + 1)) = true) := by show _ = _; rw [Ht.out, hv.out, decide_eq_true (by omega), decide_eq_true (by omega)]; rfl
   go_wp2
   go_round
   case rel => exact ⟨k + 1, by omega, by go_num, hnx⟩
   case measure => simp [intOf]; omega
  obtain rfl : k = d.length := by omega
  have hf : Hid (Zc8 d = true) := by have := hv.out; rwa [List.take_length] at this
  have hltI : ¬ (d.length : Int) < (d.length : Int) := by omega
  go_wp2
  go_ret
  exact ⟨Zbb (by rw [hr.out, hf.out]), rfl⟩
 by_cases hz3 : (1 : Int) < (d.length : Int)
 ·go_enter Tryz.func112, Tryz.ntmps112
  go_wp2
  go_loop [18] (fun n => ∃ k : Nat, k ≤ d.length ∧ n = .int .i64 k ∧ Hid (Zc8 (d.take k) = true)) (fun n => d.length - (intOf n).toNat)
  case atStart => exact ⟨0, Nat.zero_le _, rfl, rfl⟩
  obtain ⟨k, hk, rfl, hv⟩ := hrel
  clear hat0
  by_cases hlt : k < d.length
  ·have hltI : (k : Int) < (d.length : Int) := by omega
   have hat := Zbd d hb k hlt
   have hcb := hb (d.getD k 0) (by rw [show d.getD k 0 = d[k] by simp [hlt]]; exact List.getElem_mem hlt)
   have ht := Zfe d k hlt
   have hF := Zfu d k hlt
   obtain ⟨c, hc⟩ : ∃ c, d.getD k 0 = c := ⟨_, rfl⟩
   rw [hc] at hat hcb ht hF
   have Ht : Hid (Zc8 (d.take (k + 1)) = (Zc8 (d.take k) && (decide (48 ≤ c) && decide (c ≤ 57)))) := ht
   have HF : Hid (¬ (48 ≤ c ∧ c ≤ 57) → Zc8 d = false) := hF
   clear ht hF hc
   by_cases h1 : c < 48
   ·have hf : Hid (Zc8 d = false) := HF.out (by omega)
    go_wp2
    go_ret
    exact ⟨Zbb (by rw [hr.out, hf.out]), rfl⟩
   by_cases h2 : 57 < c
   ·have hf : Hid (Zc8 d = false) := HF.out (by omega)
    go_wp2
    go_ret
    exact ⟨Zbb (by rw [hr.out, hf.out]), rfl⟩
   have hnx : Hid (Zc8 (d.take (k + 1)) = true) := by show _ = _; rw [Ht.out, hv.out, decide_eq_true (by omega), decide_eq_true (by omega)]; rfl
   go_wp2
   go_round
   case rel => exact ⟨k + 1, by omega, by go_num, hnx⟩
   case measure => simp [intOf]; omega
  obtain rfl : k = d.length := by omega
  have hf : Hid (Zc8 d = true) := by have := hv.out; rwa [List.take_length] at this
  have hltI : ¬ (d.length : Int) < (d.length : Int) := by omega
  go_wp2
  go_ret
  exact ⟨Zbb (by rw [hr.out, hf.out]), rfl⟩
 go_enter Tryz.func112, Tryz.ntmps112
 go_wp2
 go_loop [18] (fun n => ∃ k : Nat, k ≤ d.length ∧ n = .int .i64 k ∧ Hid (Zc8 (d.take k) = true)) (fun n => d.length - (intOf n).toNat)
 case atStart => exact ⟨0, Nat.zero_le _, rfl, rfl⟩
 obtain ⟨k, hk, rfl, hv⟩ := hrel
 clear hat0
 by_cases hlt : k < d.length
 ·have hltI : (k : Int) < (d.length : Int) := by omega
  have hat := Zbd d hb k hlt
  have hcb := hb (d.getD k 0) (by rw [show d.getD k 0 = d[k] by simp [hlt]]; exact List.getElem_mem hlt)
  have ht := Zfe d k hlt
  have hF := Zfu d k hlt
  obtain ⟨c, hc⟩ : ∃ c, d.getD k 0 = c := ⟨_, rfl⟩
  rw [hc] at hat hcb ht hF
  have Ht : Hid (Zc8 (d.take (k + 1)) = (Zc8 (d.take k) && (decide (48 ≤ c) && decide (c ≤ 57)))) := ht
  have HF : Hid (¬ (48 ≤ c ∧ c ≤ 57) → Zc8 d = false) := hF
  clear ht hF hc
  by_cases h1 : c < 48
  ·have hf : Hid (Zc8 d = false) := HF.out (by omega)
   go_wp2
   go_ret
   exact ⟨Zbb (by rw [hr.out, hf.out]), rfl⟩
  by_cases h2 : 57 < c
  ·have hf : Hid (Zc8 d = false) := HF.out (by omega)
   go_wp2
   go_ret
   exact ⟨Zbb (by rw [hr.out, hf.out]), rfl⟩
  have hnx : Hid (Zc8 (d.take (k + 1)) = true) := by show _ = _; rw [Ht.out, hv.out, decide_eq_true (by omega), decide_eq_true (by omega)]; rfl
  go_wp2
  go_round
  case rel => exact ⟨k + 1, by omega, by go_num, hnx⟩
  case measure => simp [intOf]; omega
 obtain rfl : k = d.length := by omega
 have hf : Hid (Zc8 d = true) := by have := hv.out; rwa [List.take_length] at this
 have hltI : ¬ (d.length : Int) < (d.length : Int) := by omega
 go_wp2
 go_ret
 exact ⟨Zbb (by rw [hr.out, hf.out]), rfl⟩



theorem Tryz.info116 : (Tryz.prog.info? 131).map (fun i => (i.zero, i.size)) = some (some (.agg (Zay (words 64 0))), 64) := by kernel_rfl
theorem Zk6 (V : Nat) : (Tryz.prog.info? 131).map (·.size) = some (Zay (words 64 V)).size := by
 rw [Zb7, Zbf]; exact (zero_of_info Tryz.info116).2


theorem Zk7 (a : Addr) (w : World) : (Instr.sliceAt 131 (.pointer (some a)) none none none).run Tryz.prog w = .ok (.slice (some a) 64 64) w := by
 have hl : Tryz.prog.arrayLen 131 = 64 := by kernel_rfl
 have he : Tryz.prog.elem 131 = 130 := by kernel_rfl
 have ht : Tryz.prog.underlying 131 = some (.array (Tryz.prog.arrayLen 131) (Tryz.prog.elem 131)) := by rw [hl, he]; exact Tryz.underlying131
 have hs : (Tryz.prog.info? 130).map (·.size) = some 1 := by kernel_rfl
 have hz : (sizeOf 130).run Tryz.prog w = .ok 1 w := by
  cases hq : Tryz.prog.info? 130 with
  | none => simp [hq] at hs
  | some i => simp [hq] at hs; simp [sizeOf, typeInfo, hq, hs]
 rw [run_sliceAt_array_all w 131 a ht, he, hz, hl]
 simp [slicedAt, Result.andThen, Addr.add]

theorem Ziq (d : List Int) (k : Nat) (hk : k < d.length) : Zb2 (d.take (k + 1)) = Zb2 (d.take k) * 10 + (d.getD k 0 - 48).toNat := by
 rw [List.take_succ_eq_append_getElem hk, Znp]
 simp [hk]
theorem ten_le (m : Nat) (h : m ≤ 8) : 10 ^ m ≤ 100000000 := by
 have : 10 ^ m ≤ 10 ^ 8 := Nat.pow_le_pow_right (by decide) h
 omega
theorem ten_ne (m : Nat) (h : m < 8) : 10 ^ m * 10 ≠ 1000000000 := by
 have : 10 ^ m ≤ 10 ^ 7 := Nat.pow_le_pow_right (by decide) (by omega)
 omega

set_option maxRecDepth 100000 in
theorem Zmj (d : List Int) (w : World) (hd : Digs d) (hl : d.length ≤ 400) :
  Calls Tryz.prog 113 #[.string (strOfNums d)] w fun e w' => e = .returned (W 64 (Zb2 d)) ∧ Below w.heap.size w w' := by
 have hz := (zero_of_info Tryz.info116).1
 have hsz : (strOfNums d).size = d.length := strOfNums_size d
 have hb : ∀ x ∈ d, 0 ≤ x ∧ x < 256 := fun x hx => by have := hd x hx; omega
 unfold W
 go_enter Tryz.func113, Tryz.ntmps113
 go_wp2
 have a0 : Arr ((w.alloc (.cells (Zay (words 64 0)) 131)).alloc (.cells (Zay (words 64 0)) 131)) w.heap.size 131 (words 64 0) := heap_alloc2_old w _ _
 have a1 : Arr ((w.alloc (.cells (Zay (words 64 0)) 131)).alloc (.cells (Zay (words 64 0)) 131)) (w.heap.size + 1) 131 (words 64 0) := heap_alloc2_new w _ _
 have hB0 : Below w.heap.size w ((w.alloc (.cells (Zay (words 64 0)) 131)).alloc (.cells (Zay (words 64 0)) 131)) := box2 w _ _
 generalize (w.alloc (.cells (Zay (words 64 0)) 131)).alloc (.cells (Zay (words 64 0)) 131) = w1 at *
 go_loopw [9, 4, 5] (fun i p s wr => ∃ (k m V P sc : Nat), k ≤ d.length ∧ i = .int .i64 k ∧ p = .int .u32 P ∧ s = .int .u32 sc ∧ m ≤ 8 ∧ Hid (sc = 10 ^ m) ∧ P < sc ∧ sc ≤ 100000000 ∧ Hid (Zb2 (d.take k) = V * sc + P) ∧ (k = d.length → m = 0) ∧ Arr wr w.heap.size 131 (words 64 0) ∧ Arr wr (w.heap.size + 1) 131 (words 64 V) ∧ Below w.heap.size w wr) (fun i _ _ _ => d.length - (intOf i).toNat)
 case atStart => exact ⟨0, 0, 0, 0, 1, Nat.zero_le _, rfl, rfl, rfl, by decide, rfl, by decide, by decide, rfl, fun _ => rfl, a0, a1, hB0⟩
 obtain ⟨k, m, V, P, sc, hk, rfl, rfl, rfl, hm, hsc, hP, hs8, hv, hme, b0, b1, hB⟩ := hrel
 clear a0 a1 hB0 hz
 by_cases hlt : k < d.length
 ·have hltI : (k : Int) < (d.length : Int) := by omega
  have hat := Zbd d hb k hlt
  have hdg := hd (d.getD k 0) (by rw [show d.getD k 0 = d[k] by simp [hlt]]; exact List.getElem_mem hlt)
  have hvt := Ziq d k hlt
  obtain ⟨c, hc⟩ : ∃ c : Nat, d.getD k 0 = (c : Int) + 48 ∧ c ≤ 9 := ⟨(d.getD k 0 - 48).toNat, by omega, by omega⟩
  rw [hc.1] at hat hvt
  have hc9 := hc.2
  have hPc : P * 10 + c < sc * 10 := by omega
  have hnv : Hid (Zb2 (d.take (k + 1)) = V * (sc * 10) + (P * 10 + c)) := by
   show _ = _
   rw [hvt, hv.out, show ((c : Int) + 48 - 48).toNat = c by omega, Nat.add_mul, Nat.mul_assoc]
   omega
  have hcm : ((c : Int) + 48 - 48) % 256 = (c : Int) := by omega
  have hcm2 : ((c : Int) + 48 - 48) = (c : Int) := by omega
  clear hdg hvt hc hb hd
  by_cases h8 : m = 8
  ·have hsc8 : sc = 100000000 := by rw [hsc.out, h8]
   subst hsc8
   go_wp2_with fail
   have c73 := Zhp (w.heap.size + 1) 131 64 64 V (100000000 * 10) (P * 10 + c) [] wr (by rw [List.append_nil]; exact b1) (by decide) (by decide) (by omega) (by omega)
   rw [show ((100000000 * 10 : Nat) : Int) = 1000000000 by simp, show ((P * 10 + c : Nat) : Int) = (P : Int) * 10 + (c : Int) by simp, List.append_nil] at c73
   refine c73.mono ?_
   rintro e w2 ⟨rfl, rfl⟩
   have d0 := b0.otherW (Zay (words 64 (V * (100000000 * 10) + (P * 10 + c)))) (show w.heap.size ≠ w.heap.size + 1 by omega)
   have d1 := b1.setW (words 64 (V * (100000000 * 10) + (P * 10 + c)))
   have dB := below_setRow hB (show w.heap.size ≤ w.heap.size + 1 by omega) (Zay (words 64 (V * (100000000 * 10) + (P * 10 + c))))
   generalize wr.setRow (w.heap.size + 1) (Zay (words 64 (V * (100000000 * 10) + (P * 10 + c)))) = w3 at *
   clear c73 b0 b1 hB
   go_wp2
   go_roundw
   case rel => exact ⟨k + 1, 0, V * (100000000 * 10) + (P * 10 + c), 0, 1, by omega, by go_num, rfl, rfl, by decide, rfl, by decide, by decide, by show _ = _; rw [hnv.out]; simp, fun _ => rfl, d0, d1, dB⟩
   case measure => simp [intOf]; omega
  have hne : ((sc : Int) * 10 == 1000000000) = false := by
   have := ten_ne m (by omega)
   rw [← hsc.out] at this
   simp
   omega
  by_cases hlast : k + 1 = d.length
  ·have hlI : ((k : Int) == (d.length : Int) - 1) = true := by simp; omega
   go_wp2_with fail
   have c73 := Zhp (w.heap.size + 1) 131 64 64 V (sc * 10) (P * 10 + c) [] wr (by rw [List.append_nil]; exact b1) (by decide) (by decide) (by omega) (by omega)
   rw [show ((sc * 10 : Nat) : Int) = (sc : Int) * 10 by simp, show ((P * 10 + c : Nat) : Int) = (P : Int) * 10 + (c : Int) by simp, List.append_nil] at c73
   refine c73.mono ?_
   rintro e w2 ⟨rfl, rfl⟩
   have d0 := b0.otherW (Zay (words 64 (V * (sc * 10) + (P * 10 + c)))) (show w.heap.size ≠ w.heap.size + 1 by omega)
   have d1 := b1.setW (words 64 (V * (sc * 10) + (P * 10 + c)))
   have dB := below_setRow hB (show w.heap.size ≤ w.heap.size + 1 by omega) (Zay (words 64 (V * (sc * 10) + (P * 10 + c))))
   generalize wr.setRow (w.heap.size + 1) (Zay (words 64 (V * (sc * 10) + (P * 10 + c)))) = w3 at *
   clear c73 b0 b1 hB
   go_wp2
   go_roundw
   case rel => exact ⟨k + 1, 0, V * (sc * 10) + (P * 10 + c), 0, 1, by omega, by go_num, rfl, rfl, by decide, rfl, by decide, by decide, by show _ = _; rw [hnv.out]; simp, fun _ => rfl, d0, d1, dB⟩
   case measure => simp [intOf]; omega
  have hlI : ((k : Int) == (d.length : Int) - 1) = false := by simp; omega
  go_wp2
  go_roundw
  case rel => exact ⟨k + 1, m + 1, V, P * 10 + c, sc * 10, by omega, by go_num, by simp, by simp, by omega, by show _ = _; rw [hsc.out, Nat.pow_succ], hPc, by have := ten_le (m + 1) (by omega); rw [Nat.pow_succ, ← hsc.out] at this; exact this, hnv, fun h => absurd h hlast, b0, b1, hB⟩
  case measure => simp [intOf]; omega
 obtain rfl : k = d.length := by omega
 have hm0 := hme rfl
 subst hm0
 have hv' := hv.out
 rw [List.take_length, hsc.out, Nat.pow_zero, Nat.mul_one] at hv'
 rw [hsc.out, Nat.pow_zero] at hP
 obtain rfl : P = 0 := by omega
 rw [Nat.add_zero] at hv'
 rw [← hv'] at b1
 clear hv'
 have hltI : ¬ (d.length : Int) < (d.length : Int) := by omega
 go_wp2_with (first | refine wpList_load_row rfl 131 _ rfl (w.heap.size + 1) rfl 131 _ _ _ b1 Tryz.underlying131 rfl (Zk6 _) ?_ | refine wpList_store_row rfl 131 _ _ rfl w.heap.size _ rfl rfl 131 _ b0 (Zk6 _) (by rw [Zb7, Zb7, Zbf, Zbf]) (Zfw _) ?_)
 exact bodyPost_ret (v := .agg (Zay (words 64 (Zb2 d)))) (results_cell_row (by rfl) _ _ w.heap.size 131 _ (0, 0) _ rfl (b0.setW _) Tryz.underlying131 rfl (Zk6 _)) rfl ⟨rfl, below_setRow hB zo _⟩

theorem Zph {xs ys : List Int} (hx : ∀ x ∈ xs, 0 ≤ x ∧ x < 256) (hy : ∀ x ∈ ys, 0 ≤ x ∧ x < 256) (h : (strOfNums xs).toList = (strOfNums ys).toList) : xs = ys := by
 have e : xs.map (fun n => UInt8.ofNat n.toNat) = ys.map (fun n => UInt8.ofNat n.toNat) := by rw [Lib.strOfNums_toList, Lib.strOfNums_toList] at h; exact h
 have hl : xs.length = ys.length := by simpa using congrArg List.length e
 apply List.ext_getElem hl
 intro i h1 h2
 have e2 : (xs.map (fun n => UInt8.ofNat n.toNat))[i]? = (ys.map (fun n => UInt8.ofNat n.toNat))[i]? := by rw [e]
 rw [List.getElem?_map, List.getElem?_map, List.getElem?_eq_getElem h1, List.getElem?_eq_getElem h2] at e2
 simp only [Option.map_some, Option.some.injEq] at e2
 have e3 := congrArg UInt8.toNat e2
 have a := hx _ (List.getElem_mem h1)
 have b := hy _ (List.getElem_mem h2)
 rw [UInt8.toNat_ofNat', UInt8.toNat_ofNat', Nat.mod_eq_of_lt (by omega), Nat.mod_eq_of_lt (by omega)] at e3
 omega
theorem rdOk_eq (ss : List Int) : Zpt ss = (Zec (rdD ss) && !(Zea ss && decide (rdD ss = [48]))) := by
 unfold Zpt Zec
 cases hn : Zea ss with
 | false =>
  have hD : rdD ss = ss := by unfold rdD; rw [hn]; rfl
  rw [hD]
  cases hd : Zc8 ss with
  | false => simp
  | true =>
   simp only [Bool.and_true, Bool.false_and, Bool.not_false]
   congr 1
   cases h48 : (ss.getD 0 0 == 48) with
   | false => simp
   | true =>
    cases ss with
    | nil => simp at h48
    | cons c r => cases r with
     | nil => simp
     | cons _ _ => simp
 | true =>
  cases ss with
  | nil => simp [Zea] at hn
  | cons c r =>
   have hD : rdD (c :: r) = r := by unfold rdD; rw [hn]; rfl
   rw [hD]
   cases r with
   | nil => simp
   | cons e q =>
    cases hd : Zc8 (e :: q) with
    | false => simp
    | true =>
     cases h48 : (e == 48) with
     | false =>
      have : e ≠ 48 := by simpa using h48
      simp [this]
     | true =>
      have : e = 48 := by simpa using h48
      subst this
      cases q with
      | nil => simp
      | cons _ _ => simp
theorem Znx {d : List Int} (h : Zec d = true) : Digs d := by
 unfold Zec at h
 rw [Bool.and_eq_true] at h
 exact (Zkp d).1 h.2
theorem pow_two (b m p q : Nat) (hb : 0 < b) (h : m ≤ p + q) : b ^ m ≤ b ^ p * b ^ q := by
 rw [← Nat.pow_add]
 exact Nat.pow_le_pow_right hb h
theorem pow400 (d : List Int) (h : Digs d) (hl : d.length ≤ 400) : Zb2 d < 4294967296 ^ 64 := by
 have a := Nat.lt_of_lt_of_le (Zmv d h) (pow_two 10 d.length 200 200 (by decide) hl)
 have b : 10 ^ 200 * 10 ^ 200 ≤ 4294967296 ^ 32 * 4294967296 ^ 32 := Nat.mul_le_mul (by decide) (by decide)
 rw [show (64 : Nat) = 32 + 32 from rfl, Nat.pow_add]
 exact Nat.lt_of_lt_of_le a b
theorem str_eq48 (d : List Int) (hb : ∀ x ∈ d, 0 ≤ x ∧ x < 256) : ((strOfNums d).toList == [48]) = decide (d = [48]) := by
 have e : (strOfNums [48]).toList = [48] := by rw [Lib.strOfNums_toList]; rfl
 by_cases h : d = [48]
 ·subst h; rw [e]; rfl
 rw [decide_eq_false h]
 have : (strOfNums d).toList ≠ [48] := fun he => h (Zph hb (by decide) (he.trans e.symm))
 simpa using this

set_option maxRecDepth 100000 in
theorem Zmz (ss : List Int) (w : World) (hb : ∀ x ∈ ss, 0 ≤ x ∧ x < 256) (hm : ss.length ≤ 9223372036854775807) :
  Calls Tryz.prog 93 #[.string (strOfNums ss)] w fun e w' => ∃ v, e = .returned (.tuple #[.agg #[.bool (rdB ss), v], .int .i64 (rdE ss)]) ∧ Zdp w' w.heap.size v (rdM ss) ∧ Below w.heap.size w w' := by
 have hB1 := Zfg w (.cells #[.bool false, .slice none 0 0] 115)
 have z := heap_alloc_new w (.cells #[.bool false, .slice none 0 0] 115)
 have hs1 : (w.alloc (.cells #[.bool false, .slice none 0 0] 115)).heap.size = w.heap.size + 1 := by simp
 have hsz : (strOfNums ss).size = ss.length := strOfNums_size ss
 have hok := rdOk_eq ss
 have hdb : ∀ x ∈ rdD ss, 0 ≤ x ∧ x < 256 := by
  intro x hx
  unfold rdD at hx
  split at hx
  ·exact hb x (List.mem_of_mem_drop hx)
  exact hb x hx
 have hdl := Zpu ss
 have h48 := str_eq48 (rdD ss) hdb
 have l48 := lit48
 obtain ⟨d, Hd⟩ : ∃ d, Hid (rdD ss = d) := ⟨_, rfl⟩
 obtain ⟨nb, Hn⟩ : ∃ d, Hid (Zea ss = d) := ⟨_, rfl⟩
 rw [Hd.out] at hok hdb hdl h48
 rw [Hn.out] at hok
 go_enter Tryz.func93, Tryz.ntmps93
 go_wp2_with fail
 generalize w.alloc (.cells #[.bool false, .slice none 0 0] 115) = w1 at *
 refine (cut_any ss w1 hb hm).mono ?_
 rintro e w2 ⟨rfl, rfl⟩
 rw [Hd.out, Hn.out]
 go_wp2_with fail
 refine (Zp2 d w1 hdb (by omega)).mono ?_
 rintro e w2 ⟨rfl, rfl⟩
 obtain ⟨q0, q1, qf0, qf1⟩ := Zql z
 have hbad : Zpt ss = false → Hid (rdB ss = false) ∧ Hid (rdE ss = 11) ∧ Hid (rdM ss = []) := by
  intro h
  exact ⟨by show _ = _; unfold rdB; rw [h]; rfl, by show _ = _; unfold rdE; rw [h]; rfl, by show _ = _; unfold rdM; rw [h]; rfl⟩
 cases hp : Zec d with
 | false =>
  rw [hp] at hok
  obtain ⟨e1, e2, e3⟩ := hbad hok
  clear hbad hok
  go_wp2
  exact bodyPost_ret (v := .tuple #[.agg #[.bool false, .slice none 0 0], .int .i64 11]) (by simp [results, Tryz.results93, go_sem, q0, q1]) rfl ⟨.slice none 0 0, by rw [e1.out, e2.out], by rw [e3.out]; exact Zbq (n := 0) (World.ownsRow_nil _ _ _ _) (by simp), Zbg (b := w.heap.size) hB1 zo⟩
 | true =>
  have hdg := Znx hp
  rw [hp, Bool.true_and] at hok
  cases hz : (nb && decide (d = [48])) with
  | true =>
   rw [hz] at hok
   obtain ⟨e1, e2, e3⟩ := hbad hok
   clear hbad hok
   rw [Bool.and_eq_true, decide_eq_true_iff] at hz
   obtain ⟨rfl, rfl⟩ := hz
   rw [decide_eq_true rfl] at h48
   have h48' : (strOfNums [48]).toList = [48] := by rw [Lib.strOfNums_toList]; rfl
   go_wp2
   exact bodyPost_ret (v := .tuple #[.agg #[.bool false, .slice none 0 0], .int .i64 11]) (by simp [results, Tryz.results93, go_sem, q0, q1]) rfl ⟨.slice none 0 0, by rw [e1.out, e2.out], by rw [e3.out]; exact Zbq (n := 0) (World.ownsRow_nil _ _ _ _) (by simp), Zbg (b := w.heap.size) hB1 zo⟩
  | false =>
   rw [hz] at hok
   simp only [Bool.not_false] at hok
   clear hbad
   by_cases h4 : ss.length ≤ 400
   ·have h4' : ¬ (400 : Int) < (ss.length : Int) := by omega
    have e1 : Hid (rdB ss = Zqv nb (Zb2 d)) := by show _ = _; unfold rdB; rw [if_pos hok, if_pos h4, Hd.out, Hn.out]
    have e2 : Hid (rdE ss = Zqu (Zb2 d)) := by show _ = _; unfold rdE; rw [if_pos hok, if_pos h4, Hd.out]
    have e3 : Hid (rdM ss = Zqt (Zb2 d)) := by show _ = _; unfold rdM; rw [if_pos hok, if_pos h4, Hd.out]
    have hVb := pow400 d hdg (by omega)
    have c56 := Zmj d w1 hdg (by omega)
    obtain ⟨V, HV⟩ : ∃ V, Hid (Zb2 d = V) := ⟨_, rfl⟩
    rw [HV.out] at c56 hVb e1 e2 e3
    clear hok hp
    cases nb with
    | false =>
     go_wp2_with fail
     refine c56.mono ?_
     rintro e w3 ⟨rfl, hb3⟩
     unfold W
     have a6 : Arr (w3.alloc (.cells (Zay (words 64 0)) 131)) w3.heap.size 131 (words 64 0) := heap_alloc_new w3 _
     have a6' := a6.setW (words 64 V)
     have hz64 := (zero_of_info Tryz.info116).1
     have u := (hb3.block _ (lt_of_block z)).trans z
     have hB3 := Zaf hB1 zo hb3
     have hs3 := hb3.size
     rw [hs1] at hs3
     have f0 := (setRow_other (w3.alloc (.cells (Zay (words 64 0)) 131)) w3.heap.size w.heap.size (Zay (words 64 V)) (Nat.ne_of_lt (lt_of_block u))).trans ((Below.heap_alloc _ _ _ (lt_of_block u)).trans u)
     have hB4 := below_setRow (hB3.alloc hB3.size (.cells (Zay (words 64 0)) 131)) hB3.size (Zay (words 64 V))
     have hs4 : w.heap.size + 1 ≤ ((w3.alloc (.cells (Zay (words 64 0)) 131)).setRow w3.heap.size (Zay (words 64 V))).heap.size := by simp; omega
     have hsl := fun b w => Zk7 ⟨b, 0, none⟩ w
     clear q0 q1 qf0 qf1
     go_wp2_with (refine wpList_store_row rfl 131 _ _ rfl w3.heap.size _ rfl rfl 131 _ a6 (Zk6 _) (by rw [Zb7, Zb7, Zbf, Zbf]) (Zfw _) ?_)
     generalize (w3.alloc (.cells (Zay (words 64 0)) 131)).setRow w3.heap.size (Zay (words 64 V)) = w4 at *
     refine (Zm3 false (Arr.isW a6' (Zbf _ _) (by decide) (Zj8 _ _)) (by decide) (Zej 64 _ hVb)).mono ?_
     rintro e w5 ⟨v5, rfl, o5, hb5⟩
     have u5 := (hb5.block _ (lt_of_block f0)).trans f0
     have hB5 := Zaf hB4 zo hb5
     rw [← e1.out, ← e2.out]
     rw [← e3.out] at o5
     obtain ⟨bb, Kb⟩ : ∃ bb, Hid (rdB ss = bb) := ⟨_, rfl⟩
     obtain ⟨ee, Ke⟩ : ∃ ee, Hid (rdE ss = ee) := ⟨_, rfl⟩
     obtain ⟨mm, Km⟩ : ∃ mm, Hid (rdM ss = mm) := ⟨_, rfl⟩
     rw [Km.out] at o5
     rw [Kb.out, Ke.out]
     obtain ⟨av, cv, rfl, _⟩ := o5.2
     clear e1 e2 e3 hz64
     obtain ⟨p0, p1, pf0, pf1⟩ := Zql u5
     go_wp2
     exact bodyPost_ret (v := .tuple #[.agg #[.bool bb, .slice av mm.length cv], .int .i64 ee]) (by simp [results, Tryz.results93, go_sem, p0, p1]) rfl ⟨_, by rw [Kb.out, Ke.out], by rw [Km.out]; exact Zdp.put (base := w.heap.size + 1) (b := w.heap.size) (b0 := w.heap.size) (o5.mono (by omega)) (by omega) (by omega), Zbg (b := w.heap.size) hB5 zo⟩
    | true =>
     rw [Bool.true_and] at hz
     rw [hz] at h48
     go_wp2_with fail
     refine c56.mono ?_
     rintro e w3 ⟨rfl, hb3⟩
     unfold W
     have a6 : Arr (w3.alloc (.cells (Zay (words 64 0)) 131)) w3.heap.size 131 (words 64 0) := heap_alloc_new w3 _
     have a6' := a6.setW (words 64 V)
     have hz64 := (zero_of_info Tryz.info116).1
     have u := (hb3.block _ (lt_of_block z)).trans z
     have hB3 := Zaf hB1 zo hb3
     have hs3 := hb3.size
     rw [hs1] at hs3
     have f0 := (setRow_other (w3.alloc (.cells (Zay (words 64 0)) 131)) w3.heap.size w.heap.size (Zay (words 64 V)) (Nat.ne_of_lt (lt_of_block u))).trans ((Below.heap_alloc _ _ _ (lt_of_block u)).trans u)
     have hB4 := below_setRow (hB3.alloc hB3.size (.cells (Zay (words 64 0)) 131)) hB3.size (Zay (words 64 V))
     have hs4 : w.heap.size + 1 ≤ ((w3.alloc (.cells (Zay (words 64 0)) 131)).setRow w3.heap.size (Zay (words 64 V))).heap.size := by simp; omega
     have hsl := fun b w => Zk7 ⟨b, 0, none⟩ w
     clear q0 q1 qf0 qf1
     go_wp2_with (refine wpList_store_row rfl 131 _ _ rfl w3.heap.size _ rfl rfl 131 _ a6 (Zk6 _) (by rw [Zb7, Zb7, Zbf, Zbf]) (Zfw _) ?_)
     generalize (w3.alloc (.cells (Zay (words 64 0)) 131)).setRow w3.heap.size (Zay (words 64 V)) = w4 at *
     refine (Zm3 true (Arr.isW a6' (Zbf _ _) (by decide) (Zj8 _ _)) (by decide) (Zej 64 _ hVb)).mono ?_
     rintro e w5 ⟨v5, rfl, o5, hb5⟩
     have u5 := (hb5.block _ (lt_of_block f0)).trans f0
     have hB5 := Zaf hB4 zo hb5
     rw [← e1.out, ← e2.out]
     rw [← e3.out] at o5
     obtain ⟨bb, Kb⟩ : ∃ bb, Hid (rdB ss = bb) := ⟨_, rfl⟩
     obtain ⟨ee, Ke⟩ : ∃ ee, Hid (rdE ss = ee) := ⟨_, rfl⟩
     obtain ⟨mm, Km⟩ : ∃ mm, Hid (rdM ss = mm) := ⟨_, rfl⟩
     rw [Km.out] at o5
     rw [Kb.out, Ke.out]
     obtain ⟨av, cv, rfl, _⟩ := o5.2
     clear e1 e2 e3 hz64
     obtain ⟨p0, p1, pf0, pf1⟩ := Zql u5
     go_wp2
     exact bodyPost_ret (v := .tuple #[.agg #[.bool bb, .slice av mm.length cv], .int .i64 ee]) (by simp [results, Tryz.results93, go_sem, p0, p1]) rfl ⟨_, by rw [Kb.out, Ke.out], by rw [Km.out]; exact Zdp.put (base := w.heap.size + 1) (b := w.heap.size) (b0 := w.heap.size) (o5.mono (by omega)) (by omega) (by omega), Zbg (b := w.heap.size) hB5 zo⟩
   have h4' : (400 : Int) < (ss.length : Int) := by omega
   have e1 : Hid (rdB ss = false) := by show _ = _; unfold rdB; rw [if_pos hok, if_neg h4]
   have e2 : Hid (rdE ss = 24) := by show _ = _; unfold rdE; rw [if_pos hok, if_neg h4]
   have e3 : Hid (rdM ss = []) := by show _ = _; unfold rdM; rw [if_pos hok, if_neg h4]
   clear hok hp
   cases nb with
   | false =>
    go_wp2
    exact bodyPost_ret (v := .tuple #[.agg #[.bool false, .slice none 0 0], .int .i64 24]) (by simp [results, Tryz.results93, go_sem, q0, q1]) rfl ⟨.slice none 0 0, by rw [e1.out, e2.out], by rw [e3.out]; exact Zbq (n := 0) (World.ownsRow_nil _ _ _ _) (by simp), Zbg (b := w.heap.size) hB1 zo⟩
   | true =>
    rw [Bool.true_and] at hz
    rw [hz] at h48
    go_wp2
    exact bodyPost_ret (v := .tuple #[.agg #[.bool false, .slice none 0 0], .int .i64 24]) (by simp [results, Tryz.results93, go_sem, q0, q1]) rfl ⟨.slice none 0 0, by rw [e1.out, e2.out], by rw [e3.out]; exact Zbq (n := 0) (World.ownsRow_nil _ _ _ _) (by simp), Zbg (b := w.heap.size) hB1 zo⟩
end Go.Proofs.YtncfmhlikmibaaaGreatDoor
