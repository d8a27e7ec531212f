/- above: the least commit at a key that is above another one; always; told. -/
import Derived.Test.YtigmpmichhghdaaBhd
import Derived.Test.YtigmpmichhghdaaPla
namespace Go.Proofs.Ytigmpmichhghdaa
open Go.RowKit
set_option maxRecDepth 100000
/-- The first one above a number. -/
def abv (l : List Int) (c : Int) : Option Int := l.find? (fun x => decide (c < x))
theorem abv_drop {xs : List Int} {c : Int} {L : Nat} (h : Fnd xs c L) : abv xs c = (xs.drop L)[0]? := by
  have h1 : abv xs c = abv (xs.drop L) c := by
    unfold abv
    conv => lhs; rw [← List.take_append_drop L xs]
    rw [List.find?_append]
    have : (xs.take L).find? (fun x => decide (c < x)) = none := by
      rw [List.find?_eq_none]
      intro x hx
      obtain ⟨i, hi, rfl⟩ := List.mem_iff_getElem.1 hx
      rw [List.length_take] at hi
      have := (h.2 i xs[i] (List.getElem?_eq_getElem (by omega))).1 (by omega)
      simp
      omega
    rw [this]
    rfl
  rw [h1]
  cases hd : xs.drop L with
  | nil => rfl
  | cons x r =>
    have hx : xs[L]? = some x := by
      have := congrArg (·[0]?) hd
      simp only [List.getElem?_drop] at this
      simpa using this
    have : ¬ x ≤ c := fun hle => by have := (h.2 L x hx).2 hle; omega
    unfold abv
    simp [show c < x by omega]
theorem lookup_nil (k : Int) (w : World) : Sem.run Try.prog (Instr.lookup 61 (.map none) (.int .i64 k) false) w = .ok (.slice none 0 0) w := by
  have hz := Try.zeroValue23 w
  have hf := run_findKey (P := Try.prog) (w := w) Try.underlying2 k []
  simp only [List.map_nil, List.findIdx?_nil, Option.map_none] at hf
  simp [Instr.lookup, run_underlying Try.underlying61, hz, hf, Result.andThen, run_checkKey Try.underlying2]
set_option maxHeartbeats 1000000 in
theorem above_any {w : World} {S : Nat → Prop} {bp : Nat} {f : Int → List Int} (key c : Int) (P : Pl w S bp f) (hr : RiseI (f key)) (hfl : (f key).length ≤ 4611686018427387903) :
    Calls Try.prog 37 #[.pointer (some ⟨bp, 0, none⟩), .int .i64 key, .int .i64 c] w fun e w' => e = .returned (.tuple #[.int .i64 ((abv (f key) c).getD 0), .bool (abv (f key) c).isSome]) ∧ Below w.heap.size w w' := by
  obtain ⟨⟨mv, hcv, hV⟩, _, _⟩ := id P
  obtain ⟨a, n, cc, hlk, O⟩ : ∃ a n cc, Sem.run Try.prog (Instr.lookup 61 (.map mv) (.int .i64 key) false) w = .ok (.slice a n cc) w ∧ OwnI w 0 (.slice a n cc) (f key) := by
    cases mv with
    | none =>
      rw [hV key]
      exact ⟨none, 0, 0, lookup_nil key w, ownI_nil _ _⟩
    | some mb =>
      obtain ⟨F, hM⟩ := hV
      obtain ⟨va, vn, vc, hvF, OV⟩ := hM.get key
      have hlk := hM.map.lookup (P := Try.prog) (t := 61) Try.underlying61 Try.underlying2 (z := .slice none 0 0) (Try.zeroValue23 w) key
      rw [hvF] at hlk
      exact ⟨va, vn, vc, hlk, OV⟩
  have hn : n ≤ 4611686018427387903 := by
    obtain ⟨_, _, _, e, hl⟩ := O.shape
    cases e
    omega
  have hs := behind_any c O.isI O.spot hr hn
  clear O hV
  go_enter Try.func37, Try.ntmps37
  go_wp2_with fail
  refine hs.mono ?_
  rintro e w2 ⟨L, a', n', c', rfl, hF, I2, B⟩
  have hab : Hid (abv (f key) c = ((f key).drop L)[0]?) := abv_drop hF
  have hsz := I2.size
  clear hs hlk hcv hF
  rcases Nat.eq_zero_or_pos n' with rfl | hpos
  · have hd : (f key).drop L = [] := List.eq_nil_of_length_eq_zero hsz
    have he : Hid (abv (f key) c = none) := by unfold Hid; rw [hab.out, hd]; rfl
    clear hd hab
    go_wp2
    refine bodyPost_ret (results_tmp2 rfl _ _ _) rfl ?_
    exact ⟨by rw [he.out]; rfl, B⟩
  · obtain ⟨b, off, x, rfl, _, cx, hx, _⟩ := I2.at_ 0 hpos
    have he : Hid (abv (f key) c = some x) := by unfold Hid; rw [hab.out]; exact hx.out
    rw [Nat.add_zero] at cx
    have hn0 : ¬ (n' : Int) = 0 := by omega
    have hn1 : (0 : Int) < (n' : Int) := by omega
    clear hab hx
    go_wp2
    refine bodyPost_ret (results_tmp2 rfl _ _ _) rfl ?_
    exact ⟨by rw [he.out]; rfl, B⟩
set_option maxHeartbeats 1000000 in
theorem always_any (x : Int) (w : World) : Calls Try.prog 28 #[.int .i64 x] w fun e w' => e = .returned (.bool true) ∧ w = w' := by
  go_enter Try.func28, Try.ntmps28
  go_wp2
  go_ret
  exact ⟨rfl, rfl⟩
/-- The error's number. -/
def eN (r : Option Int) : Int := if r.isSome then 30 else 0
/-- What stands in the way, as a value. -/
def wayV : Option Int → Value
  | none => .iface 77 (.agg #[])
  | some x => .iface 72 (.agg #[.int .i64 x])
theorem ta_no72 (w : World) : Sem.run Try.prog (Instr.typeAssert (.iface 77 (.agg #[])) 53 72 true) w = .ok (.tuple #[.agg #[.int .i64 0], .bool false]) w := by
  have hz := Try.zeroValue72 w
  simp [Instr.typeAssert, run_underlying Try.underlying72, hz, go_sem, Result.andThen]
theorem ta_no74 (w : World) : Sem.run Try.prog (Instr.typeAssert (.iface 77 (.agg #[])) 53 74 true) w = .ok (.tuple #[.agg #[], .bool false]) w := by
  have hz := Try.zeroValue74 w
  simp [Instr.typeAssert, run_underlying Try.underlying74, hz, go_sem, Result.andThen]
theorem ta_yes72 (x : Int) (w : World) : Sem.run Try.prog (Instr.typeAssert (.iface 72 (.agg #[.int .i64 x])) 53 72 true) w = .ok (.tuple #[.agg #[.int .i64 x], .bool true]) w := by
  simp [Instr.typeAssert, run_underlying Try.underlying72, go_sem, Result.andThen]
set_option maxHeartbeats 1000000 in
theorem told_any (r : Option Int) (w : World) : Calls Try.prog 25 #[wayV r] w fun e w' => e = .returned (.tuple #[.int .i64 (r.getD 0), .int .i64 (eN r)]) ∧ Below w.heap.size w w' := by
  cases r with
  | none =>
    have h1 := ta_no72
    have h2 := ta_no74
    unfold wayV
    go_enter Try.func25, Try.ntmps25
    go_wp2
    refine bodyPost_ret (results_tmp2 rfl _ _ _) rfl ?_
    exact ⟨rfl, Below.refl _ _⟩
  | some x =>
    have h1 := ta_yes72
    unfold wayV
    go_enter Try.func25, Try.ntmps25
    go_wp2
    refine bodyPost_ret (results_tmp2 rfl _ _ _) rfl ?_
    exact ⟨rfl, box_below⟩
end Go.Proofs.Ytigmpmichhghdaa
