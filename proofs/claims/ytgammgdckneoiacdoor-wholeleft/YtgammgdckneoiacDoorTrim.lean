/- strings.TrimLeft by one sign, and whole.Text. -/
import Derived.Test.YtgammgdckneoiacDoorDec
namespace Go.Proofs.YtgammgdckneoiacDoor
open Go.RowKit

/-- How long a string is. -/
def sizeS : Value → Nat
  | .string b => b.size
  | _ => 0

theorem str_head (c : Int) (r : List Int) (h0 : 0 ≤ c) (h1 : c < 256) (hp : 0 < (strOfNums (c :: r)).size) : (((strOfNums (c :: r))[0]'hp).toNat : Int) = c := by
  show ((UInt8.ofNat c.toNat).toNat : Int) = c
  simp; omega
theorem str_tail (c : Int) (r : List Int) : (strOfNums (c :: r)).extract 1 (r.length + 1) = strOfNums r := by
  apply ByteArray.ext
  simp [strOfNums, ByteArray.data_extract]
  exact List.take_of_length_le (by simp)

set_option maxRecDepth 100000 in
set_option maxHeartbeats 2000000 in
theorem trimByte_any (xs : List Int) (w : World) (hx : ∀ x ∈ xs, 0 ≤ x ∧ x < 256) (hm : xs.length ≤ 1000) :
    Calls Tryd.prog 43 #[.string (strOfNums xs), .int .u8 48] w fun e w' => e = .returned (.string (strOfNums (xs.dropWhile (· == 48)))) ∧ w = w' := by
  go_enter Tryd.func43, Tryd.ntmps43
  go_wp2
  go_loop [0] (fun s => ∃ ys : List Int, s = .string (strOfNums ys) ∧ Hid (ys.dropWhile (· == 48) = xs.dropWhile (· == 48)) ∧ (∀ x ∈ ys, 0 ≤ x ∧ x < 256) ∧ ys.length ≤ 1000) (fun s => sizeS s)
  case atStart => exact ⟨xs, rfl, rfl, hx, hm⟩
  case round =>
    obtain ⟨ys, rfl, hd, hy, hl⟩ := hrel
    cases ys with
    | nil =>
      have h0 : (strOfNums []).size = 0 := rfl
      go_wp2
      go_ret
      exact ⟨by rw [← hd.out]; rfl, rfl⟩
    | cons c r =>
      have hsz : (strOfNums (c :: r)).size = r.length + 1 := by rw [strOfNums_size]; rfl
      have hc := hy c (by simp)
      have hh := str_head c r hc.1 hc.2 (by rw [hsz]; omega)
      simp only [List.length_cons] at hl
      by_cases h48 : c = 48
      · subst h48
        have hd' : Hid (r.dropWhile (· == 48) = xs.dropWhile (· == 48)) := by show _ = _; rw [← hd.out]; simp
        clear hd
        go_wp2
        go_round
        case rel => exact ⟨r, by rw [str_tail], hd', fun x hx => hy x (by simp [hx]), by omega⟩
        case measure => rw [str_tail]; simp [sizeS, strOfNums_size]
      · have h48' : (c == 48) = false := by simpa using h48
        have hd' : Hid (xs.dropWhile (· == 48) = c :: r) := by show _ = _; rw [← hd.out]; simp [h48]
        clear hd h48
        go_wp2
        go_ret
        exact ⟨by rw [hd'.out]; rfl, rfl⟩
set_option maxRecDepth 100000 in
set_option maxHeartbeats 2000000 in
theorem trim_any (xs : List Int) (w : World) (hx : ∀ x ∈ xs, 0 ≤ x ∧ x < 256) (hm : xs.length ≤ 1000) (h0 : 0 < xs.length) :
    Calls Tryd.prog 33 #[.string (strOfNums xs), .string ⟨#[48]⟩] w fun e w' => e = .returned (.string (strOfNums (xs.dropWhile (· == 48)))) ∧ w = w' := by
  have hE0 : ¬ (strOfNums xs).toList = [] := by
    rw [Lib.strOfNums_toList]
    intro e
    have := congrArg List.length e
    simp [Lib.bytesOf] at this
    rw [this] at h0
    simp at h0
  have hE : (strOfNums xs).toList.isEmpty = false := by
    cases h : (strOfNums xs).toList with
    | nil => exact absurd h hE0
    | cons a b => rfl
  have h48 : ((({ data := #[48] } : ByteArray)[0]'(by decide)).toNat : Int) = 48 := rfl
  go_enter Tryd.func33, Tryd.ntmps33
  go_wp2_with fail
  refine (trimByte_any xs w hx hm).mono ?_
  rintro e w1 ⟨rfl, rfl⟩
  go_wp2
  go_ret
  exact ⟨rfl, rfl⟩

theorem ret_str {a b : ByteArray} (h : a = b) : Ending.returned (.string a) = .returned (.string b) := by rw [h]
theorem str_neg (xs : List Int) : strOfNums ([45] ++ xs) = (⟨#[45]⟩ : ByteArray) ++ strOfNums xs := by
  unfold strOfNums
  rw [List.map_append]
  rfl

/-- A number's decimal digits. -/
def dec (V : Nat) : List Int := (decN 315 V).dropWhile (· == 48)

theorem drop_le (p : Int → Bool) (l : List Int) : (l.dropWhile p).length ≤ l.length := (List.dropWhile_suffix p).length_le
theorem dec_le (V : Nat) : (dec V).length ≤ 315 := by
  have h := drop_le (· == 48) (decN 315 V)
  rwa [decN_len] at h
theorem isB_arr {w : World} {b t : Nat} {xs : List Int} (h : ArrB w b t xs) (hx : ∀ x ∈ xs, 0 ≤ x ∧ x < 256) (hm : xs.length ≤ 1000) : IsB w (some ⟨b, 0, none⟩) xs.length xs.length xs :=
  ⟨rfl, Nat.le_refl _, by unfold maxLen; omega, by simp, hx, fun _ => ⟨b, 0, rfl, fun i hi => by rw [Nat.zero_add]; exact h.cell i hi⟩⟩

set_option maxRecDepth 100000 in
set_option maxHeartbeats 2000000 in
theorem text_any {a : Option Addr} {len cap : Nat} {xs : List Int} {w : World} (neg : Bool) (h : IsB w a len cap xs) (hr : rightB neg xs = true) (h0 : 0 < len) :
    Calls Tryd.prog 20 #[.agg #[.bool neg, .slice a len cap]] w fun e w' => e = .returned (.string (strOfNums ((if neg then [45] else []) ++ dec (val8 xs)))) ∧ Below w.heap.size w w' := by
  have hz := (zero_of_info Tryd.info75).1
  have hsz := h.size
  have h128 := (lead_right hr).2
  have hm := h.room
  have hmm := h.most
  unfold maxLen at hmm
  have hb := box_below w (.cells #[.bool neg, .slice a len cap] 27)
  have hI := h.below hb
  have hV : val8 xs < 256 ^ 128 := Nat.lt_of_lt_of_le (val8_lt xs h.byte) (Nat.pow_le_pow_right (by decide) h128)
  have h0' : ((len : Int) == 0) = false := by simp; omega
  have hT := fun w => trim_any (decN 315 (val8 xs)) w (decN_byte _ _) (by rw [decN_len]; decide) (by rw [decN_len]; decide)
  obtain ⟨D, HD⟩ : ∃ D, Hid (dec (val8 xs) = D) := ⟨_, rfl⟩
  have hD' : (decN 315 (val8 xs)).dropWhile (· == 48) = D := HD.out
  rw [hD'] at hT
  rw [HD.out]
  have hDs : ¬ 9223372036854775807 < 1 + (strOfNums D).size := by
    have hl := dec_le (val8 xs)
    rw [HD.out] at hl
    rw [strOfNums_size]
    omega
  clear hD' HD
  go_enter Tryd.func20, Tryd.ntmps20
  go_wp2_with fail
  refine (right_any neg hI).mono ?_
  rintro e w1 ⟨rfl, hb1⟩
  have hv1 : w1.heap[w.heap.size]? = some (.cells #[.bool neg, .slice a len cap] 27 (0, 0)) := (hb1.block _ (by simp)).trans (heap_alloc_new w _)
  have hB1 := below_size hb (Nat.le_refl _) hb1
  have hI1 := hI.below hb1
  obtain ⟨x0, x1, _, _⟩ := intVar hv1
  rw [hr]
  go_wp2_with fail
  refine (load_any hI1 (by omega)).mono ?_
  rintro e w2 ⟨rfl, hb2⟩
  have hv2 : w2.heap[w.heap.size]? = some (.cells #[.bool neg, .slice a len cap] 27 (0, 0)) := (hb2.block _ (lt_of_block hv1)).trans hv1
  have hB2 := below_size hB1 (Nat.le_refl _) hb2
  go_wp2_with fail
  refine (dec_any (val8 xs) w2 hV).mono ?_
  rintro e w3 ⟨rfl, hb3⟩
  have hv3 : w3.heap[w.heap.size]? = some (.cells #[.bool neg, .slice a len cap] 27 (0, 0)) := (hb3.block _ (lt_of_block hv2)).trans hv2
  have hB3 := below_size hB2 (Nat.le_refl _) hb3
  have hn3 : ArrB (w3.alloc (.cells (cellsB noughts) 53)) w3.heap.size 53 noughts := heap_alloc_new w3 _
  clear x0 x1
  have hn4 := hn3.setW (decN 315 (val8 xs))
  have hB4 : Below w.heap.size w ((w3.alloc (.cells (cellsB noughts) 53)).setRow w3.heap.size (cellsB (decN 315 (val8 xs)))) := below_setRow (hB3.alloc hB3.size _) hB3.size _
  have hs3 : w.heap.size < w3.heap.size := lt_of_block hv3
  have hv4 : ((w3.alloc (.cells (cellsB noughts) 53)).setRow w3.heap.size (cellsB (decN 315 (val8 xs)))).heap[w.heap.size]? = some (.cells #[.bool neg, .slice a len cap] 27 (0, 0)) := (setRow_other _ _ _ _ (by omega)).trans ((Below.heap_alloc _ _ _ hs3).trans hv3)
  have hst := (isB_arr hn4 (decN_byte _ _) (by rw [decN_len]; decide)).str
  rw [decN_len] at hst
  obtain ⟨x0, x1, _, _⟩ := intVar hv4
  go_wp2_with (refine wpList_store_row rfl 53 _ _ rfl w3.heap.size _ rfl rfl 53 _ hn3 (size75 _ (decN_len _ _)) (by rw [cellsB_size, cellsB_size, decN_len]; rfl) (cellsB_one _) ?_)
  refine (hT _).mono ?_
  rintro e w5 ⟨rfl, rfl⟩
  clear hst hT hn4 hn3
  cases neg
  · go_wp2
    go_ret
    exact ⟨ret_str rfl, hB4⟩
  · go_wp2
    go_ret
    exact ⟨ret_str (str_neg D).symm, hB4⟩
end Go.Proofs.YtgammgdckneoiacDoor
