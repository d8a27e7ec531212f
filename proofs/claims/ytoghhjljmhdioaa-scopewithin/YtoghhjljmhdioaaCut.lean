/- Decimal digits, there and back: plain arithmetic, no program. -/
import Derived.Test.YtoghhjljmhdioaaAdd
namespace Go.Proofs.Ytoghhjljmhdioaa
set_option maxRecDepth 100000
open Go.RowKit

/-- The number whose decimal digits these are. -/
def val10 (d : List Int) : Nat := d.foldl (fun a c => a * 10 + (c - 48).toNat) 0
/-- They are all decimal digits. -/
def Digs (d : List Int) : Prop := ∀ c ∈ d, 48 ≤ c ∧ c ≤ 57

theorem val10_snoc (d : List Int) (c : Int) : val10 (d ++ [c]) = val10 d * 10 + (c - 48).toNat := by unfold val10; rw [List.foldl_append]; rfl
theorem val10_acc : ∀ (d : List Int) (a : Nat), d.foldl (fun a c => a * 10 + (c - 48).toNat) a = a * 10 ^ d.length + val10 d
  | [], a => by simp [val10]
  | c :: r, a => by
    rw [List.foldl_cons, val10_acc r]
    unfold val10
    rw [List.foldl_cons, val10_acc r (0 * 10 + (c - 48).toNat), List.length_cons, Nat.pow_succ, Nat.add_mul, Nat.mul_assoc a, Nat.mul_comm 10]
    simp only [Nat.zero_mul, Nat.zero_add, Nat.add_assoc]
    rfl
theorem val10_cons (c : Int) (r : List Int) : val10 (c :: r) = (c - 48).toNat * 10 ^ r.length + val10 r := by
  unfold val10; rw [List.foldl_cons, val10_acc r]
  simp
  rfl
theorem val10_lt : ∀ (d : List Int), Digs d → val10 d < 10 ^ d.length
  | [], _ => by simp [val10]
  | c :: r, h => by
    have h0 := h c (by simp)
    have ih := val10_lt r (fun x hx => h x (by simp [hx]))
    rw [val10_cons, List.length_cons, Nat.pow_succ]
    have : (c - 48).toNat * 10 ^ r.length ≤ 9 * 10 ^ r.length := Nat.mul_le_mul_right _ (by omega)
    omega
theorem decN_digs : ∀ (k n : Nat), Digs (decN k n)
  | 0, _, x, h => by simp [decN] at h
  | k + 1, n, x, h => by
    unfold decN at h
    rcases List.mem_append.1 h with h | h
    · exact decN_digs k _ x h
    · simp at h; omega
theorem val10_decN : ∀ (k n : Nat), n < 10 ^ k → val10 (decN k n) = n
  | 0, n, h => by simp at h; simp [decN, val10, h]
  | k + 1, n, h => by
    unfold decN
    rw [val10_snoc, val10_decN k _ (by rw [Nat.pow_succ] at h; exact Nat.div_lt_of_lt_mul (by rw [Nat.mul_comm]; exact h))]
    omega
theorem decN_val10 : ∀ (k : Nat) (d : List Int), Digs d → d.length = k → decN k (val10 d) = d
  | 0, d, _, hk => by rw [List.eq_nil_of_length_eq_zero hk]; rfl
  | k + 1, d, h, hk => by
    have hne : d ≠ [] := fun e => by rw [e] at hk; simp at hk
    obtain ⟨r, c, rfl⟩ : ∃ r c, d = r ++ [c] := ⟨d.dropLast, d.getLast hne, (List.dropLast_concat_getLast hne).symm⟩
    have hc := h c (by simp)
    have hr : Digs r := fun x hx => h x (by simp [hx])
    rw [val10_snoc]
    unfold decN
    have e1 : (val10 r * 10 + (c - 48).toNat) / 10 = val10 r := by omega
    have e2 : (val10 r * 10 + (c - 48).toNat) % 10 = (c - 48).toNat := by omega
    rw [e1, e2, decN_val10 k r hr (by simpa using hk)]
    congr 2
    omega
theorem val10_drop : ∀ d : List Int, val10 (d.dropWhile (· == 48)) = val10 d
  | [] => rfl
  | c :: r => by
    by_cases h : c = 48
    · subst h
      rw [List.dropWhile_cons_of_pos (by simp), val10_drop r, val10_cons]
      simp
    · rw [List.dropWhile_cons_of_neg (by simpa using h)]
theorem drop_digs (d : List Int) (h : Digs d) : Digs (d.dropWhile (· == 48)) := fun x hx => h x ((List.dropWhile_suffix _).subset hx)
theorem dec_digs (V : Nat) : Digs (dec V) := drop_digs _ (decN_digs 315 V)
theorem val10_dec (V : Nat) (h : V < 10 ^ 315) : val10 (dec V) = V := by unfold dec; rw [val10_drop, val10_decN _ _ h]
theorem drop_head : ∀ (d : List Int), (d.dropWhile (· == 48)).getD 0 0 ≠ 48
  | [] => by simp
  | c :: r => by
    by_cases h : c = 48
    · subst h; rw [List.dropWhile_cons_of_pos (by simp)]; exact drop_head r
    · rw [List.dropWhile_cons_of_neg (by simpa using h)]; simpa using h
theorem dec_head (V : Nat) : (dec V).getD 0 0 ≠ 48 := drop_head _
theorem dec_ne (V : Nat) (h0 : V ≠ 0) (h : V < 10 ^ 315) : dec V ≠ [] := by
  intro e
  have := val10_dec V h
  rw [e] at this
  exact h0 this.symm
theorem decN_pad : ∀ (m k n : Nat), n < 10 ^ k → decN (m + k) n = List.replicate m 48 ++ decN k n
  | 0, k, n, _ => by simp
  | m + 1, k, n, h => by
    rw [show m + 1 + k = (m + k) + 1 by omega, decN_front, decN_pad m k n h, List.replicate_succ, List.cons_append]
    congr 1
    have : 10 ^ k ≤ 10 ^ (m + k) := Nat.pow_le_pow_right (by decide) (by omega)
    rw [Nat.div_eq_of_lt (by omega)]; rfl
theorem drop_rep : ∀ (m : Nat) (d : List Int), d.getD 0 0 ≠ 48 → (List.replicate m (48 : Int) ++ d).dropWhile (· == 48) = d
  | 0, d, h => by
    cases d with
    | nil => rfl
    | cons c r => simp at h; simp [h]
  | m + 1, d, h => by
    rw [List.replicate_succ, List.cons_append, List.dropWhile_cons_of_pos (by simp)]
    exact drop_rep m d h
/-- Digits without noughts ahead are those of their number. -/
theorem dec_val10 (d : List Int) (h : Digs d) (h0 : d.getD 0 0 ≠ 48) (hl : d.length ≤ 315) : dec (val10 d) = d := by
  unfold dec
  obtain ⟨m, hm⟩ : ∃ m, 315 = m + d.length := ⟨315 - d.length, by omega⟩
  rw [hm, decN_pad m _ _ (val10_lt d h), decN_val10 _ d h rfl]
  exact drop_rep m d h0
/-- Digits without noughts ahead are not more than their number has room for. -/
theorem val10_ge (d : List Int) (h : Digs d) (hne : d ≠ []) (h0 : d.getD 0 0 ≠ 48) : 10 ^ (d.length - 1) ≤ val10 d := by
  cases d with
  | nil => exact absurd rfl hne
  | cons c r =>
    have hc := h c (by simp)
    simp at h0
    rw [val10_cons, List.length_cons, Nat.add_sub_cancel]
    have : 1 * 10 ^ r.length ≤ (c - 48).toNat * 10 ^ r.length := Nat.mul_le_mul_right _ (by omega)
    omega
theorem big10 (m : Nat) (h : 309 ≤ m) : 256 ^ 128 ≤ 10 ^ m := by
  obtain ⟨j, rfl⟩ : ∃ j, m = 154 + (154 + (1 + j)) := ⟨m - 309, by omega⟩
  rw [Nat.pow_add 10 154, Nat.pow_add 10 154, Nat.pow_add 10 1, show (128 : Nat) = 64 + 64 from rfl, Nat.pow_add]
  have a : 256 ^ 64 ≤ 2 * 10 ^ 154 := by decide
  have hj : 1 ≤ 10 ^ j := Nat.pow_pos (by decide)
  have b : 256 ^ 64 * 256 ^ 64 ≤ 2 * 10 ^ 154 * (2 * 10 ^ 154) := Nat.mul_le_mul a a
  generalize 10 ^ 154 = P at *
  generalize 256 ^ 64 = Q at *
  generalize 10 ^ j = J at *
  have c : 2 * P * (2 * P) = P * (P * (4 * 1)) := by simp only [Nat.mul_comm, Nat.mul_left_comm]
  have d : P * (P * (4 * 1)) ≤ P * (P * (10 ^ 1 * J)) := Nat.mul_le_mul_left _ (Nat.mul_le_mul_left _ (Nat.mul_le_mul (by decide) hj))
  omega
theorem len10 (d : List Int) (h : Digs d) (hne : d ≠ []) (h0 : d.getD 0 0 ≠ 48) (hV : val10 d < 256 ^ 128) : d.length ≤ 309 := by
  have a := val10_ge d h hne h0
  rcases Nat.lt_or_ge 309 d.length with h' | h'
  · exfalso
    have b := big10 (d.length - 1) (by omega)
    exact absurd (Nat.lt_of_le_of_lt (Nat.le_trans b a) hV) (Nat.lt_irrefl _)
  · exact h'

/-- What a text says: is - ahead, the digits behind it, can it be read, and what comes of it. -/
def rdNeg (ss : List Int) : Bool := ss.getD 0 0 == 45
def rdD (ss : List Int) : List Int := if rdNeg ss then ss.drop 1 else ss
def digB (d : List Int) : Bool := d.all fun c => decide (48 ≤ c) && decide (c ≤ 57)
def rdOk (ss : List Int) : Bool := decide (rdD ss ≠ []) && (!((rdD ss).getD 0 0 == 48) || decide (ss.length = 1)) && digB (rdD ss)
def rdB (ss : List Int) : Bool := if rdOk ss then if ss.length ≤ 400 then fitB (rdNeg ss) (val10 (rdD ss)) else false else false
def rdE (ss : List Int) : Int := if rdOk ss then if ss.length ≤ 400 then fitE (val10 (rdD ss)) else 24 else 11
def rdM (ss : List Int) : List Int := if rdOk ss then if ss.length ≤ 400 then fitM (val10 (rdD ss)) else [] else []
theorem digB_iff (d : List Int) : digB d = true ↔ Digs d := by
  unfold digB Digs
  rw [List.all_eq_true]
  constructor
  · intro h c hc
    have := h c hc
    simp at this
    exact this
  · intro h c hc
    have := h c hc
    simp [this]
/-- The text of a number that can be. -/
def txt (n : Bool) (V : Nat) : List Int := if V = 0 then [48] else (if n then [45] else []) ++ dec V
theorem rdD_len (ss : List Int) : (rdD ss).length ≤ ss.length := by
  unfold rdD; split
  · simp
  · exact Nat.le_refl _

/-- A text that was read is the one that is written. -/
theorem txt_read (ss : List Int) (hE : rdE ss = 0) : txt (rdB ss) (val8 (rdM ss)) = ss ∧ rightB (rdB ss) (rdM ss) = true := by
  unfold rdE at hE
  by_cases hk : rdOk ss = true
  · rw [if_pos hk] at hE
    by_cases h4 : ss.length ≤ 400
    · rw [if_pos h4] at hE
      have hf : blen (val10 (rdD ss)) ≤ 128 := by
        unfold fitE at hE
        by_cases h' : blen (val10 (rdD ss)) ≤ 128
        · exact h'
        · rw [if_neg h'] at hE; exact absurd hE (by decide)
      have eB : rdB ss = (rdNeg ss && decide (val10 (rdD ss) ≠ 0)) := by unfold rdB; rw [if_pos hk, if_pos h4]; unfold fitB; rw [decide_eq_true hf, Bool.and_true]
      have eM : rdM ss = mag (val10 (rdD ss)) := by unfold rdM; rw [if_pos hk, if_pos h4]; unfold fitM; rw [if_pos hf]
      rw [eB, eM, val8_mag]
      unfold rdOk at hk
      rw [Bool.and_eq_true, Bool.and_eq_true, decide_eq_true_iff, Bool.or_eq_true, decide_eq_true_iff] at hk
      obtain ⟨⟨hne, hz⟩, hd⟩ := hk
      have hd' := (digB_iff _).1 hd
      have hV := (blen_le _ _).1 hf
      by_cases h48 : (rdD ss).getD 0 0 = 48
      · have h1 : ss.length = 1 := by
          rcases hz with hz | hz
          · rw [h48] at hz; simp at hz
          · exact hz
        obtain ⟨c, rfl⟩ : ∃ c, ss = [c] := by
          cases ss with
          | nil => simp at h1
          | cons c r => cases r with
            | nil => exact ⟨c, rfl⟩
            | cons _ _ => simp at h1
        by_cases hc : c = 45
        · subst hc; simp [rdD, rdNeg] at hne
        · have hn : rdNeg [c] = false := by simpa [rdNeg] using hc
          have hD : rdD [c] = [c] := by unfold rdD; rw [hn]; rfl
          rw [hD] at h48
          simp at h48
          subst h48
          decide
      · have hne0 : val10 (rdD ss) ≠ 0 := by
          have := val10_ge _ hd' hne h48
          have hp : 0 < 10 ^ ((rdD ss).length - 1) := Nat.pow_pos (by decide)
          omega
        have hlen := len10 _ hd' hne h48 hV
        rw [decide_eq_true hne0, Bool.and_true]
        refine ⟨?_, ?_⟩
        · unfold txt
          rw [if_neg hne0, dec_val10 _ hd' h48 (by omega)]
          unfold rdD
          by_cases hn : rdNeg ss = true
          · rw [hn, if_pos rfl, if_pos rfl]
            cases ss with
            | nil => simp [rdNeg] at hn
            | cons c r => simp [rdNeg] at hn; subst hn; rfl
          · rw [if_neg hn, if_neg hn]; rfl
        · have hb := (blen_spec (val10 (rdD ss))).2 hne0
          unfold rightB
          rw [if_neg (by rw [mag_len]; omega), decide_eq_true (by rw [mag_len]; exact hf)]
          obtain ⟨k, hk⟩ : ∃ k, blen (val10 (rdD ss)) = k + 1 := ⟨blen (val10 (rdD ss)) - 1, by omega⟩
          have e : (mag (val10 (rdD ss))).getD 0 0 = ((val10 (rdD ss) / 256 ^ k % 256 : Nat) : Int) := by
            unfold mag; rw [hk, bytesN_front]; rfl
          rw [e]
          have h1 := (blen_spec (val10 (rdD ss))).1
          rw [hk, Nat.pow_succ] at h1
          rw [hk, Nat.add_sub_cancel] at hb
          have hp : 0 < 256 ^ k := Nat.pow_pos (by decide)
          have h2 : val10 (rdD ss) / 256 ^ k < 256 := Nat.div_lt_of_lt_mul (by omega)
          have h3 : 1 ≤ val10 (rdD ss) / 256 ^ k := (Nat.le_div_iff_mul_le hp).2 (by omega)
          have h5 : ((val10 (rdD ss) / 256 ^ k % 256 : Nat) : Int) ≠ 0 := by omega
          rw [beq_eq_false_iff_ne.2 h5]; rfl
    · rw [if_neg h4] at hE; exact absurd hE (by decide)
  · rw [if_neg hk] at hE; exact absurd hE (by decide)
/-- A text that is written is read as the number. -/
theorem read_txt (n : Bool) (xs : List Int) (hb : ∀ x ∈ xs, 0 ≤ x ∧ x < 256) (hr : rightB n xs = true) : rdB (txt n (val8 xs)) = n ∧ rdE (txt n (val8 xs)) = 0 ∧ rdM (txt n (val8 xs)) = xs := by
  cases xs with
  | nil =>
    simp [rightB] at hr
    subst hr
    decide
  | cons b r =>
    unfold rightB at hr
    rw [if_neg (by simp)] at hr
    simp only [Bool.and_eq_true, decide_eq_true_eq] at hr
    have hb0 : b ≠ 0 := by simpa using hr.2
    obtain ⟨m1, m2⟩ := mag_cons b r hb hb0
    have hV : val8 (b :: r) < 256 ^ 128 := Nat.lt_of_lt_of_le (val8_lt _ hb) (Nat.pow_le_pow_right (by decide) hr.1)
    generalize val8 (b :: r) = V at *
    have hV10 : V < 10 ^ 315 := Nat.lt_of_lt_of_le hV (big10 315 (by decide))
    have ht : txt n V = (if n then [45] else []) ++ dec V := by unfold txt; rw [if_neg m2]
    have hne := dec_ne V m2 hV10
    have hh := dec_head V
    have hdg := dec_digs V
    have hv := val10_dec V hV10
    have hl := dec_le V
    have hN : rdNeg (txt n V) = n ∧ rdD (txt n V) = dec V := by
      rw [ht]
      cases n
      · have h0 : rdNeg (dec V) = false := by
          unfold rdNeg
          cases hq : dec V with
          | nil => exact absurd hq hne
          | cons c t =>
            have := hdg c (by rw [hq]; simp)
            simp
            omega
        simp only [Bool.false_eq_true, if_false, List.nil_append]
        exact ⟨h0, by unfold rdD; rw [h0]; rfl⟩
      · simp only [if_true]
        generalize dec V = q
        exact ⟨rfl, rfl⟩
    have hk : rdOk (txt n V) = true := by
      unfold rdOk
      rw [hN.2, decide_eq_true hne, (digB_iff _).2 hdg]
      have : ((dec V).getD 0 0 == 48) = false := by simpa using hh
      rw [this]; rfl
    have h4 : (txt n V).length ≤ 400 := by
      rw [ht, List.length_append]
      have : (if n then [(45 : Int)] else []).length ≤ 1 := by cases n <;> decide
      omega
    have hf : blen V ≤ 128 := (blen_le _ _).2 hV
    refine ⟨?_, ?_, ?_⟩
    · unfold rdB; rw [if_pos hk, if_pos h4, hN.1, hN.2, hv]; unfold fitB; rw [decide_eq_true m2, decide_eq_true hf]; simp
    · unfold rdE; rw [if_pos hk, if_pos h4, hN.2, hv]; unfold fitE; rw [if_pos hf]
    · unfold rdM; rw [if_pos hk, if_pos h4, hN.2, hv]; unfold fitM; rw [if_pos hf, m1]
end Go.Proofs.Ytoghhjljmhdioaa
namespace Go.Proofs.Ytoghhjljmhdioaa
set_option maxRecDepth 100000
open Go.RowKit

theorem str_at (ss : List Int) (hb : ∀ x ∈ ss, 0 ≤ x ∧ x < 256) (k : Nat) (hk : k < ss.length) : ∀ hp : k < (strOfNums ss).size, (((strOfNums ss)[k]'hp).toNat : Int) = ss.getD k 0 := by
  intro hp
  have h := hb ss[k] (List.getElem_mem hk)
  show (((strOfNums ss).data[k]'hp).toNat : Int) = _
  have e : (strOfNums ss).data[k]'hp = UInt8.ofNat (ss[k]).toNat := by simp [strOfNums]
  rw [e, UInt8.toNat_ofNat', Nat.mod_eq_of_lt (by omega)]
  simp [hk]
  omega
theorem lit45 : (⟨#[45]⟩ : ByteArray).toList = [45] := by
  show (strOfNums [45]).toList = _
  rw [Lib.strOfNums_toList]; rfl
theorem lit48 : (⟨#[48]⟩ : ByteArray).toList = [48] := by
  show (strOfNums [48]).toList = _
  rw [Lib.strOfNums_toList]; rfl
theorem str_first (c : Int) (r : List Int) : ((strOfNums (c :: r)).extract 0 1).toList = [UInt8.ofNat c.toNat] := by
  have : (strOfNums (c :: r)).extract 0 1 = strOfNums [c] := by
    apply ByteArray.ext
    simp [strOfNums, ByteArray.data_extract]
  rw [this, Lib.strOfNums_toList]; rfl

set_option maxRecDepth 100000 in
set_option maxHeartbeats 2000000 in
theorem hasPrefix_any (ss : List Int) (w : World) (hb : ∀ x ∈ ss, 0 ≤ x ∧ x < 256) (hm : ss.length ≤ 9223372036854775807) :
    Calls Try.prog 77 #[.string (strOfNums ss), .string ⟨#[45]⟩] w fun e w' => e = .returned (.bool (rdNeg ss)) ∧ w = w' := by
  have hp : (⟨#[45]⟩ : ByteArray).size = 1 := rfl
  cases ss with
  | nil =>
    have h0 : (strOfNums []).size = 0 := rfl
    go_enter Try.func77, Try.ntmps77
    go_wp2
    go_ret
    exact ⟨rfl, rfl⟩
  | cons c r =>
    have hsz : (strOfNums (c :: r)).size = r.length + 1 := by rw [strOfNums_size]; rfl
    have hc := hb c (by simp)
    have hf := str_first c r
    have hl : (⟨#[45]⟩ : ByteArray).toList = [45] := lit45
    simp only [List.length_cons] at hm
    have hq : ([UInt8.ofNat c.toNat] == [(45 : UInt8)]) = rdNeg (c :: r) := by
      unfold rdNeg
      simp only [List.getD_cons_zero]
      by_cases h45 : c = 45
      · subst h45; rfl
      · have h1 : (c == 45) = false := by simpa using h45
        rw [h1]
        have h2 : UInt8.ofNat c.toNat ≠ 45 := by
          intro e
          have := congrArg UInt8.toNat e
          rw [UInt8.toNat_ofNat', Nat.mod_eq_of_lt (by omega)] at this
          have h3 : (45 : UInt8).toNat = 45 := rfl
          omega
        simpa using h2
    go_enter Try.func77, Try.ntmps77
    go_wp2
    go_ret
    exact ⟨rfl, rfl⟩

theorem rdD_cons (c : Int) (r : List Int) : rdD (c :: r) = if c == 45 then r else c :: r := by unfold rdD rdNeg; simp
set_option maxRecDepth 100000 in
set_option maxHeartbeats 2000000 in
theorem cutIn_any (ss : List Int) (w : World) (hb : ∀ x ∈ ss, 0 ≤ x ∧ x < 256) (hm : ss.length ≤ 9223372036854775807) :
    Calls Try.prog 69 #[.string (strOfNums ss), .string ⟨#[45]⟩] w fun e w' => e = .returned (.tuple #[.string (strOfNums (rdD ss)), .bool (rdNeg ss)]) ∧ w = w' := by
  have hp : (⟨#[45]⟩ : ByteArray).size = 1 := rfl
  go_enter Try.func69, Try.ntmps69
  go_wp2_with fail
  refine (hasPrefix_any ss w hb hm).mono ?_
  rintro e w1 ⟨rfl, rfl⟩
  cases hn : rdNeg ss with
  | false =>
    have hD : Hid (rdD ss = ss) := by show _ = _; unfold rdD; rw [hn]; rfl
    go_wp2
    go_ret2
    exact ⟨by rw [hD.out, hn]; rfl, rfl⟩
  | true =>
    cases ss with
    | nil => simp [rdNeg] at hn
    | cons c r =>
      have hD : Hid (rdD (c :: r) = r) := by show _ = _; unfold rdD; rw [hn]; rfl
      have hsz : (strOfNums (c :: r)).size = r.length + 1 := by rw [strOfNums_size]; rfl
      have ht := str_tail c r
      simp only [List.length_cons] at hm
      go_wp2
      go_ret2
      exact ⟨by rw [hD.out, ← ht, hn]; rfl, rfl⟩
set_option maxRecDepth 100000 in
set_option maxHeartbeats 2000000 in
theorem cut_any (ss : List Int) (w : World) (hb : ∀ x ∈ ss, 0 ≤ x ∧ x < 256) (hm : ss.length ≤ 9223372036854775807) :
    Calls Try.prog 60 #[.string (strOfNums ss), .string ⟨#[45]⟩] w fun e w' => e = .returned (.tuple #[.string (strOfNums (rdD ss)), .bool (rdNeg ss)]) ∧ w = w' := by
  go_enter Try.func60, Try.ntmps60
  go_wp2_with fail
  refine (cutIn_any ss w hb hm).mono ?_
  rintro e w1 ⟨rfl, rfl⟩
  go_wp2
  go_ret2
  exact ⟨rfl, rfl⟩

/-- plain's answer. -/
def plainB (d : List Int) : Bool := decide (d ≠ []) && !(decide (1 < d.length) && d.getD 0 0 == 48) && digB d
theorem digB_take (d : List Int) (k : Nat) (hk : k < d.length) : digB (d.take (k + 1)) = (digB (d.take k) && (decide (48 ≤ d.getD k 0) && decide (d.getD k 0 ≤ 57))) := by
  unfold digB
  rw [List.take_succ_eq_append_getElem hk, List.all_append]
  simp [hk]
theorem digB_false (d : List Int) (k : Nat) (hk : k < d.length) (h : ¬ (48 ≤ d.getD k 0 ∧ d.getD k 0 ≤ 57)) : digB d = false := by
  rw [Bool.eq_false_iff]
  intro hd
  refine h ((digB_iff d).1 hd _ ?_)
  have : d.getD k 0 = d[k] := by simp [hk]
  rw [this]
  exact List.getElem_mem hk
set_option maxRecDepth 100000 in
set_option maxHeartbeats 2000000 in
theorem plain_any (d : List Int) (w : World) (hb : ∀ x ∈ d, 0 ≤ x ∧ x < 256) (hm : d.length ≤ 9223372036854775807) :
    Calls Try.prog 61 #[.string (strOfNums d)] w fun e w' => e = .returned (.bool (plainB d)) ∧ w = w' := by
  have hE : (⟨#[]⟩ : ByteArray).toList = [] := by
    show (strOfNums []).toList = _
    rw [Lib.strOfNums_toList]; rfl
  have hsz : (strOfNums d).size = d.length := strOfNums_size d
  by_cases h0 : d = []
  · subst h0
    have h0 : (strOfNums []).toList = [] := by rw [Lib.strOfNums_toList]; rfl
    go_enter Try.func61, Try.ntmps61
    go_wp2
    go_ret
    exact ⟨rfl, rfl⟩
  · have hne : (strOfNums d).toList.isEmpty = false := by
      rw [Lib.strOfNums_toList]
      cases d with
      | nil => exact absurd rfl h0
      | cons c r => rfl
    have hne2 : ¬ (strOfNums d).toList = [] := by
      rw [Lib.strOfNums_toList]
      cases d with
      | nil => exact absurd rfl h0
      | cons c r => simp [Lib.bytesOf]
    have hpos : 0 < d.length := List.length_pos_iff.2 h0
    have hat0 := str_at d hb 0 hpos
    obtain ⟨c0, hc0⟩ : ∃ c, d.getD 0 0 = c := ⟨_, rfl⟩
    rw [hc0] at hat0
    by_cases hz : 1 < d.length ∧ c0 = 48
    · have hr : Hid (plainB d = false) := by show _ = _; unfold plainB; rw [hc0, hz.2, decide_eq_true hz.1]; simp
      obtain ⟨hz1, rfl⟩ := hz
      have hz1' : (1 : Int) < (d.length : Int) := by omega
      go_enter Try.func61, Try.ntmps61
      go_wp2
      go_ret
      exact ⟨ret_bool (by rw [hr.out]), rfl⟩
    · have hr : Hid (plainB d = digB d) := by
        show _ = _
        unfold plainB
        rw [hc0, decide_eq_true h0]
        by_cases h1 : 1 < d.length
        · have : (c0 == 48) = false := by simpa using fun e => hz ⟨h1, e⟩
          rw [this]; simp
        · rw [decide_eq_false h1]; simp
      have hz' : ((d.length : Int) ≤ 1) ∨ (c0 == 48) = false := by
        by_cases h1 : 1 < d.length
        · exact .inr (by simpa using fun e => hz ⟨h1, e⟩)
        · exact .inl (by omega)
      rcases hz' with hz1 | hz1
      · have hz2 : ¬ (1 : Int) < (d.length : Int) := by omega
        go_enter Try.func61, Try.ntmps61
        go_wp2
        go_loop [18] (fun n => ∃ k : Nat, k ≤ d.length ∧ n = .int .i64 k ∧ Hid (digB (d.take k) = true)) (fun n => d.length - (intOf n).toNat)
        case atStart => exact ⟨0, Nat.zero_le _, rfl, rfl⟩
        case round =>
          obtain ⟨k, hk, rfl, hv⟩ := hrel
          clear hat0
          by_cases hlt : k < d.length
          · have hltI : (k : Int) < (d.length : Int) := by omega
            have hat := str_at d hb k hlt
            have hcb := hb (d.getD k 0) (by rw [show d.getD k 0 = d[k] by simp [hlt]]; exact List.getElem_mem hlt)
            have ht := digB_take d k hlt
            have hF := digB_false d k hlt
            obtain ⟨c, hc⟩ : ∃ c, d.getD k 0 = c := ⟨_, rfl⟩
            rw [hc] at hat hcb ht hF
            have Ht : Hid (digB (d.take (k + 1)) = (digB (d.take k) && (decide (48 ≤ c) && decide (c ≤ 57)))) := ht
            have HF : Hid (¬ (48 ≤ c ∧ c ≤ 57) → digB d = false) := hF
            clear ht hF hc
            by_cases h1 : c < 48
            · have hf : Hid (digB d = false) := HF.out (by omega)
              go_wp2
              go_ret
              exact ⟨ret_bool (by rw [hr.out, hf.out]), rfl⟩
            · by_cases h2 : 57 < c
              · have hf : Hid (digB d = false) := HF.out (by omega)
                go_wp2
                go_ret
                exact ⟨ret_bool (by rw [hr.out, hf.out]), rfl⟩
              · have hnx : Hid (digB (d.take (k + 1)) = true) := by show _ = _; rw [Ht.out, hv.out, decide_eq_true (by omega), decide_eq_true (by omega)]; rfl
                go_wp2
                go_round
                case rel => exact ⟨k + 1, by omega, by go_num, hnx⟩
                case measure => simp [intOf]; omega
          · obtain rfl : k = d.length := by omega
            have hf : Hid (digB d = true) := by have := hv.out; rwa [List.take_length] at this
            have hltI : ¬ (d.length : Int) < (d.length : Int) := by omega
            go_wp2
            go_ret
            exact ⟨ret_bool (by rw [hr.out, hf.out]), rfl⟩
      · by_cases hz3 : (1 : Int) < (d.length : Int)
        · go_enter Try.func61, Try.ntmps61
          go_wp2
          go_loop [18] (fun n => ∃ k : Nat, k ≤ d.length ∧ n = .int .i64 k ∧ Hid (digB (d.take k) = true)) (fun n => d.length - (intOf n).toNat)
          case atStart => exact ⟨0, Nat.zero_le _, rfl, rfl⟩
          case round =>
            obtain ⟨k, hk, rfl, hv⟩ := hrel
            clear hat0
            by_cases hlt : k < d.length
            · have hltI : (k : Int) < (d.length : Int) := by omega
              have hat := str_at d hb k hlt
              have hcb := hb (d.getD k 0) (by rw [show d.getD k 0 = d[k] by simp [hlt]]; exact List.getElem_mem hlt)
              have ht := digB_take d k hlt
              have hF := digB_false d k hlt
              obtain ⟨c, hc⟩ : ∃ c, d.getD k 0 = c := ⟨_, rfl⟩
              rw [hc] at hat hcb ht hF
              have Ht : Hid (digB (d.take (k + 1)) = (digB (d.take k) && (decide (48 ≤ c) && decide (c ≤ 57)))) := ht
              have HF : Hid (¬ (48 ≤ c ∧ c ≤ 57) → digB d = false) := hF
              clear ht hF hc
              by_cases h1 : c < 48
              · have hf : Hid (digB d = false) := HF.out (by omega)
                go_wp2
                go_ret
                exact ⟨ret_bool (by rw [hr.out, hf.out]), rfl⟩
              · by_cases h2 : 57 < c
                · have hf : Hid (digB d = false) := HF.out (by omega)
                  go_wp2
                  go_ret
                  exact ⟨ret_bool (by rw [hr.out, hf.out]), rfl⟩
                · have hnx : Hid (digB (d.take (k + 1)) = true) := by show _ = _; rw [Ht.out, hv.out, decide_eq_true (by omega), decide_eq_true (by omega)]; rfl
                  go_wp2
                  go_round
                  case rel => exact ⟨k + 1, by omega, by go_num, hnx⟩
                  case measure => simp [intOf]; omega
            · obtain rfl : k = d.length := by omega
              have hf : Hid (digB d = true) := by have := hv.out; rwa [List.take_length] at this
              have hltI : ¬ (d.length : Int) < (d.length : Int) := by omega
              go_wp2
              go_ret
              exact ⟨ret_bool (by rw [hr.out, hf.out]), rfl⟩
        · go_enter Try.func61, Try.ntmps61
          go_wp2
          go_loop [18] (fun n => ∃ k : Nat, k ≤ d.length ∧ n = .int .i64 k ∧ Hid (digB (d.take k) = true)) (fun n => d.length - (intOf n).toNat)
          case atStart => exact ⟨0, Nat.zero_le _, rfl, rfl⟩
          case round =>
            obtain ⟨k, hk, rfl, hv⟩ := hrel
            clear hat0
            by_cases hlt : k < d.length
            · have hltI : (k : Int) < (d.length : Int) := by omega
              have hat := str_at d hb k hlt
              have hcb := hb (d.getD k 0) (by rw [show d.getD k 0 = d[k] by simp [hlt]]; exact List.getElem_mem hlt)
              have ht := digB_take d k hlt
              have hF := digB_false d k hlt
              obtain ⟨c, hc⟩ : ∃ c, d.getD k 0 = c := ⟨_, rfl⟩
              rw [hc] at hat hcb ht hF
              have Ht : Hid (digB (d.take (k + 1)) = (digB (d.take k) && (decide (48 ≤ c) && decide (c ≤ 57)))) := ht
              have HF : Hid (¬ (48 ≤ c ∧ c ≤ 57) → digB d = false) := hF
              clear ht hF hc
              by_cases h1 : c < 48
              · have hf : Hid (digB d = false) := HF.out (by omega)
                go_wp2
                go_ret
                exact ⟨ret_bool (by rw [hr.out, hf.out]), rfl⟩
              · by_cases h2 : 57 < c
                · have hf : Hid (digB d = false) := HF.out (by omega)
                  go_wp2
                  go_ret
                  exact ⟨ret_bool (by rw [hr.out, hf.out]), rfl⟩
                · have hnx : Hid (digB (d.take (k + 1)) = true) := by show _ = _; rw [Ht.out, hv.out, decide_eq_true (by omega), decide_eq_true (by omega)]; rfl
                  go_wp2
                  go_round
                  case rel => exact ⟨k + 1, by omega, by go_num, hnx⟩
                  case measure => simp [intOf]; omega
            · obtain rfl : k = d.length := by omega
              have hf : Hid (digB d = true) := by have := hv.out; rwa [List.take_length] at this
              have hltI : ¬ (d.length : Int) < (d.length : Int) := by omega
              go_wp2
              go_ret
              exact ⟨ret_bool (by rw [hr.out, hf.out]), rfl⟩
end Go.Proofs.Ytoghhjljmhdioaa
