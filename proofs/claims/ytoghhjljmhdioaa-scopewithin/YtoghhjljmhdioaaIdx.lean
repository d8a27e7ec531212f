/- Names looked up in a row of names; names that nobody else can have. -/
import Derived.Test.YtoghhjljmhdioaaScoM
import Derived.Test.YtoghhjljmhdioaaNod
import Derived.Test.YtoghhjljmhdioaaCas
namespace Go.Proofs.Ytoghhjljmhdioaa
open Go.RowKit
set_option maxRecDepth 100000
def BytL (l : List (List Int)) : Prop := ∀ x ∈ l, ∀ c ∈ x, 0 ≤ c ∧ c < 256
def idxI (l : List (List Int)) (t : List Int) : Int := match idxR l t with
  | some i => (i : Int)
  | none => -1
theorem str_same (d u : List Int) (hb : ∀ x ∈ d, 0 ≤ x ∧ x < 256) (hu : ∀ x ∈ u, 0 ≤ x ∧ x < 256) : ((strOfNums d).toList == (strOfNums u).toList) = decide (d = u) := str_lit d u hb hu rfl
theorem index_any {A : Nat → Prop} {w : World} {a : Option Addr} {c : Nat} {l : List (List Int)} {t : List Int} (s : SlF A w a l.length c (l.map strV)) (hl : BytL l) (ht : ∀ x ∈ t, 0 ≤ x ∧ x < 256) :
    Calls Try.prog 45 #[.slice a l.length c, .string (strOfNums t)] w fun e w' => e = .returned (.int .i64 (idxI l t)) ∧ w' = w := by
  have hmx : l.length ≤ maxLen := Nat.le_trans s.room s.most
  unfold maxLen at hmx
  go_enter Try.func45, Try.ntmps45
  go_wp2
  go_loopw [8] (fun iv wr => ∃ k : Nat, k ≤ l.length ∧ iv = .int .i64 (k : Int) ∧ (∀ j, j < k → l[j]? ≠ some t) ∧ wr = w) (fun iv _ => l.length - (intOf iv).toNat)
  case atStart => exact ⟨0, Nat.zero_le _, rfl, fun j hj => by omega, rfl⟩
  case round =>
    obtain ⟨k, hk0, rfl, hno, rfl⟩ := hrel
    by_cases hk : k < l.length
    · obtain ⟨x, hget⟩ : ∃ x, l[k]? = some x := ⟨_, List.getElem?_eq_getElem hk⟩
      have hx : ∀ y ∈ x, 0 ≤ y ∧ y < 256 := hl x (List.mem_of_getElem? hget)
      have hlm : (l.map strV).length = l.length := by simp
      obtain ⟨b1, o1, rfl, _, hc1⟩ := s.cells (by omega)
      have c1 := hc1 k (strV x) (by rw [List.getElem?_map, hget]; rfl)
      unfold strV at c1
      have hki : (k : Int) < (l.length : Int) := by omega
      have hkz : (0 : Int) ≤ (k : Int) := by omega
      have hix : ((k : Int)).toNat = k := by omega
      by_cases hxt : x = t
      · subst hxt
        have e1 : ((strOfNums x).toList == (strOfNums x).toList) = true := by simp
        clear hc1 hlm
        go_wp2
        go_ret
        have e : idxI l x = (k : Int) := by unfold idxI; rw [idxR_of hget hno]
        rw [e]
        exact ⟨rfl, rfl⟩
      · have e1 : ((strOfNums t).toList == (strOfNums x).toList) = false := by rw [str_same t x ht hx]; exact decide_eq_false (fun e => hxt e.symm)
        clear hc1 hlm
        go_wp2
        go_roundw
        case rel =>
          refine ⟨k + 1, hk, by go_num, fun j hj => ?_, trivial⟩
          by_cases hjk : j = k
          · rw [hjk, hget]
            intro e
            exact hxt (Option.some.inj e)
          · exact hno j (by omega)
        case measure => simp [intOf]; omega
    · have hki : ¬ (k : Int) < (l.length : Int) := by omega
      go_wp2
      go_ret
      have e : idxI l t = -1 := by unfold idxI; rw [idxR_no fun j hj => hno j (by omega)]
      rw [e]
      exact ⟨rfl, rfl⟩
theorem idxI_neg {l : List (List Int)} {t : List Int} (h : idxR l t = none) : idxI l t = -1 := by unfold idxI; rw [h]
theorem idxI_pos {l : List (List Int)} {t : List Int} {i : Nat} (h : idxR l t = some i) : idxI l t = (i : Int) := by unfold idxI; rw [h]
theorem contains_any {A : Nat → Prop} {w : World} {a : Option Addr} {c : Nat} {l : List (List Int)} {t : List Int} (s : SlF A w a l.length c (l.map strV)) (hl : BytL l) (ht : ∀ x ∈ t, 0 ≤ x ∧ x < 256) :
    Calls Try.prog 31 #[.slice a l.length c, .string (strOfNums t)] w fun e w' => e = .returned (.bool (idxR l t).isSome) ∧ w' = w := by
  go_enter Try.func31, Try.ntmps31
  go_wp2_with fail
  refine (index_any s hl ht).mono ?_
  rintro e w' ⟨rfl, rfl⟩
  have e : decide (idxI l t ≥ 0) = (idxR l t).isSome := by
    cases h : idxR l t with
    | none => rw [idxI_neg h]; rfl
    | some i => rw [idxI_pos h]; exact decide_eq_true (by omega)
  go_wp2
  go_ret
  exact ⟨by rw [← e]; rfl, rfl⟩
/-- The cells of a use. -/
def usV (t : List Int) (p : Int) (k : Int) (d i : Int) (b : Bool) : Value := .agg #[.int .i64 p, .string (strOfNums t), .int .i64 k, .int .i64 d, .int .i64 i, .bool b]
/-- What a name is, without place and name. -/
def ansV (x : Option (Int × Nat × Nat)) : Value := match x with
  | some (k, d, i) => .tuple #[usV [] 0 k (d : Int) (i : Int) false, .bool true]
  | none => .tuple #[usV [] 0 0 0 0 false, .bool false]
end Go.Proofs.Ytoghhjljmhdioaa
