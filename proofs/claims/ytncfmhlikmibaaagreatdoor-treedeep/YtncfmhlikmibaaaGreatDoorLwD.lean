/- So many brackets about a name. -/
import Derived.Test.YtncfmhlikmibaaaGreatDoorKno
namespace Go.Proofs.YtncfmhlikmibaaaGreatDoor
open Go.RowKit
set_option maxRecDepth 100000
def repD (k : Nat) (l : List Int) : List Int := (List.replicate k l).flatten
theorem repD_succ (k : Nat) (l : List Int) : repD (k + 1) l = repD k l ++ l := by
  unfold repD
  rw [List.replicate_succ', List.flatten_append]
  simp
theorem repD_len (k : Nat) (l : List Int) : (repD k l).length = k * l.length := by
  induction k with
  | zero => simp [repD]
  | succ k ih => rw [repD_succ, List.length_append, ih, Nat.succ_mul]
theorem repD_le {k : Nat} {l : List Int} (hk : k ≤ 60) (hl : l.length ≤ 3) : (repD k l).length ≤ 180 := by
  rw [repD_len]
  exact Nat.le_trans (Nat.mul_le_mul hk hl) (by decide)
set_option maxHeartbeats 4000000 in
theorem deep_any (k : Nat) (hk : k ≤ 60) (a b : List Int) (hal : a.length ≤ 3) (hbl : b.length ≤ 3) (w : World) : Calls Tryz.prog 18 #[.int .i64 (k : Int), .string (strOfNums a), .string (strOfNums b)] w fun e w' => e = .returned (.string (strOfNums (repD k a ++ [120] ++ repD k b))) ∧ w = w' := by
  have e0 : (⟨#[]⟩ : ByteArray) = strOfNums (repD 0 a) := rfl
  have e1 : (⟨#[120]⟩ : ByteArray) = strOfNums [120] := rfl
  have ha := app_strR
  go_enter Tryz.func18, Tryz.ntmps18
  go_wp2_with fail
  go_loopw [7, 8] (fun s v wr => ∃ i : Nat, s = .string (strOfNums (repD i a)) ∧ v = .int .i64 (i : Int) ∧ i ≤ k ∧ wr = w) (fun _ v _ => k - (intOf v).toNat)
  case atStart => exact ⟨0, rfl, rfl, Nat.zero_le _, rfl⟩
  case round =>
    obtain ⟨i, rfl, rfl, hi, rfl⟩ := hrel
    have hw0 : IntKind.i64.wrap ((i : Int) + 1) = ((i + 1 : Nat) : Int) := by rw [IntKind.wrap_i64]; omega
    by_cases hp : i < k
    · have hltI : (i : Int) < (k : Int) := by omega
      have hr := repD_succ i a
      have hsz : (strOfNums (repD i a)).size + (strOfNums a).size ≤ 9223372036854775807 := by rw [strOfNums_size, strOfNums_size]; have := repD_le (k := i) (l := a) (by omega) hal; omega
      go_wp2
      go_roundw
      case rel => exact ⟨i + 1, by rw [hr], by go_num, hp, trivial⟩
      case measure => simp [intOf]; omega
    · have hltI : ¬ (i : Int) < (k : Int) := by omega
      obtain rfl : i = k := by omega
      clear hw0
      have hsz : (strOfNums (repD i a)).size + (strOfNums [120]).size ≤ 9223372036854775807 := by rw [strOfNums_size, strOfNums_size, List.length_singleton]; have := repD_le (k := i) (l := a) hk hal; omega
      have hXl : (repD i a ++ [120]).length ≤ 181 := by have := repD_le (k := i) (l := a) hk hal; rw [List.length_append, List.length_singleton]; omega
      go_upto_region 7 with fail
      obtain ⟨X, hX⟩ : ∃ X, Hid (repD i a ++ [120] = X) := ⟨repD i a ++ [120], show _ = _ from rfl⟩
      rw [hX.out] at hXl ⊢
      go_wp2_with fail
      go_loopw [7, 9] (fun s v wr' => ∃ j : Nat, s = .string (strOfNums (X ++ repD j b)) ∧ v = .int .i64 (j : Int) ∧ j ≤ i ∧ wr' = wr) (fun _ v _ => i - (intOf v).toNat)
      case atStart => exact ⟨0, by simp [repD], rfl, Nat.zero_le _, rfl⟩
      case round =>
        obtain ⟨j, rfl, rfl, hj, rfl⟩ := hrel
        have hw0 : IntKind.i64.wrap ((j : Int) + 1) = ((j + 1 : Nat) : Int) := by rw [IntKind.wrap_i64]; omega
        by_cases hq : j < i
        · have hltJ : (j : Int) < (i : Int) := by omega
          have hr : X ++ repD (j + 1) b = X ++ repD j b ++ b := by rw [repD_succ, List.append_assoc]
          have hYl : (X ++ repD j b).length ≤ 361 := by have := repD_le (k := j) (l := b) (by omega) hbl; rw [List.length_append]; omega
          generalize X ++ repD j b = Y at *
          have hsz : (strOfNums Y).size + (strOfNums b).size ≤ 9223372036854775807 := by rw [strOfNums_size, strOfNums_size]; omega
          go_wp2
          go_roundw
          case rel => exact ⟨j + 1, by rw [hr], by go_num, hq, trivial⟩
          case measure => simp [intOf]; omega
        · have hltJ : ¬ (j : Int) < (i : Int) := by omega
          obtain rfl : j = i := by omega
          go_wp2
          go_ret
          exact ⟨by show Ending.returned (.string (strOfNums (X ++ repD j b))) = _; rw [← hX.out, List.append_assoc]; rfl, rfl⟩
end Go.Proofs.YtncfmhlikmibaaaGreatDoor
namespace Go.Proofs.YtncfmhlikmibaaaGreatDoor
set_option maxRecDepth 100000
def repL (k : Nat) (l : List Int) : List Int := (List.replicate k l).flatten
def opnL (i : Nat) : List Int := if i = 0 then [40] else if i = 1 then [91] else if i = 2 then [35, 40] else [120, 58, 61]
def clsL (i : Nat) : List Int := if i = 0 then [41] else if i = 1 then [93] else if i = 2 then [41] else []
def deepL (k i : Nat) : List Int := repL k (opnL i) ++ [120] ++ repL k (clsL i)
def deepAt (i : Nat) : Nat := 40 * (opnL i).length + if i = 3 then 1 else 0
def deepOk (k i : Nat) : Bool :=
  decide ((deepL k i).length ≤ 400) && (deepL k i).all (fun x => decide (0 ≤ x) && decide (x < 256)) &&
  match lexR rdB0 0 (deepL k i) with
  | .error _ => false
  | .ok W => match runW W 900 (.body 0 0 u0N) with
    | some (.ok _ j) => decide (k ≤ 40) && decide (kdW W j = 0)
    | some (.er j e) => decide (40 < k) && decide (e = 3) && decide (psW W j = deepAt i)
    | none => false
theorem deep_all : ∀ i < 4, ∀ k < 61, deepOk k i = true := by decide +kernel
theorem deep_read {k i : Nat} (hi : i < 4) (hk : k ≤ 60) {n : Nd} {pl : Nat} {er : Int} (h : TreP (deepL k i) false n pl er) : (k ≤ 40 ∧ pl = 0 ∧ er = 0) ∨ (40 < k ∧ pl = deepAt i ∧ er = 3) := by
  have hd := deep_all i hi k (by omega)
  unfold deepOk at hd
  rw [Bool.and_eq_true, Bool.and_eq_true, decide_eq_true_eq] at hd
  obtain ⟨⟨hl, _⟩, hd⟩ := hd
  rcases h with ⟨⟨h, _⟩ | ⟨_, h, _⟩, _⟩ | ⟨W, _, h, hu⟩
  · omega
  · rw [h] at hd; cases hd
  · rw [h] at hd
    unfold UnitR at hu
    rw [if_neg (by decide)] at hu
    obtain ⟨r, h1, h2⟩ := hu
    simp only at hd
    cases hr : runW W 900 (.body 0 0 u0N) with
    | none => rw [hr] at hd; cases hd
    | some r' =>
      rw [hr] at hd
      obtain rfl := h1.det ⟨900, hr⟩
      cases r with
      | ok x j =>
        simp only [Bool.and_eq_true, decide_eq_true_eq] at hd
        simp only [hd.2, if_true] at h2
        exact .inl ⟨hd.1, h2.2.1, h2.2.2⟩
      | er j e =>
        simp only [Bool.and_eq_true, decide_eq_true_eq] at hd
        exact .inr ⟨hd.1.1, by rw [h2.2.1, hd.2], by rw [h2.2.2, hd.1.2]⟩
theorem deep_ok {k i : Nat} (hi : i < 4) (hk : k ≤ 60) : (deepL k i).length ≤ 400 ∧ ∀ x ∈ deepL k i, 0 ≤ x ∧ x < 256 := by
  have hd := deep_all i hi k (by omega)
  unfold deepOk at hd
  rw [Bool.and_eq_true, Bool.and_eq_true, decide_eq_true_eq] at hd
  refine ⟨hd.1.1, fun x hx => ?_⟩
  have := List.all_eq_true.1 hd.1.2 x hx
  simpa using this
end Go.Proofs.YtncfmhlikmibaaaGreatDoor
namespace Go.Proofs.YtncfmhlikmibaaaGreatDoor
open Go.RowKit
set_option maxRecDepth 100000
theorem deepL_eq (k i : Nat) : deepL k i = repD k (opnL i) ++ [120] ++ repD k (clsL i) := rfl
set_option maxHeartbeats 4000000 in
theorem treeDeep_true (a0 : Int) (w : World) : Calls Tryz.prog 7 #[.int .i64 a0] w fun e w' => e = .returned (.bool true) ∧ Below w.heap.size w w' := by
  obtain ⟨K, hK, hKv⟩ : ∃ K : Nat, K ≤ 60 ∧ ((a0 < 0 ∨ 60 < a0) → K = 41) ∧ (¬ (a0 < 0 ∨ 60 < a0) → a0 = (K : Int)) := by
    by_cases h : a0 < 0 ∨ 60 < a0
    · exact ⟨41, by decide, fun _ => rfl, fun h' => absurd h h'⟩
    · exact ⟨a0.toNat, by omega, fun h' => absurd h' h, fun _ => by omega⟩
  go_enter Tryz.func7, Tryz.ntmps7
  go_upto_region 1 with fail
  go_cut [16] from 11 to 16 (fun v wx => v = .bool (decide (a0 < 0 ∨ 60 < a0)) ∧ wx = w)
  case first =>
    by_cases h0 : a0 < 0
    · go_wp2
      go_meet
      exact ⟨by simp [h0], rfl⟩
    · by_cases h60 : 60 < a0
      · go_wp2
        go_meet
        exact ⟨by simp [h60], rfl⟩
      · go_wp2
        go_meet
        exact ⟨by simp [h0, h60], rfl⟩
  case rest =>
    obtain ⟨rfl, rfl⟩ := hcut
    go_upto_if 16 with fail
    go_cut [0] from 16 to 16 (fun v wx => v = .int .i64 (K : Int) ∧ wx = wc)
    case first =>
      by_cases h0 : a0 < 0 ∨ 60 < a0
      · rw [decide_eq_true h0]
        obtain rfl := hKv.1 h0
        go_wp2
        go_meet
        exact ⟨rfl, rfl⟩
      · rw [decide_eq_false h0]
        obtain rfl := hKv.2 h0
        go_wp2
        go_meet
        exact ⟨rfl, rfl⟩
    case rest =>
      obtain ⟨rfl, rfl⟩ := hcut
      go_wp2_with fail
      go_loopw [3] (fun v wr => ∃ i : Nat, v = .int .i64 (i : Int) ∧ i ≤ 4 ∧ Below wc.heap.size wc wr) (fun v _ => 4 - (intOf v).toNat)
      case atStart => exact ⟨0, rfl, by decide, Below.refl _ _⟩
      case round =>
        obtain ⟨i, rfl, hi, hB⟩ := hrel
        obtain rfl | rfl | rfl | rfl | rfl : i = 0 ∨ i = 1 ∨ i = 2 ∨ i = 3 ∨ i = 4 := by omega
        · have P := fun w => parse_any 8 false (.inl ⟨rfl, rfl⟩) (deepL K 0) w (deep_ok (i := 0) (by decide) hK).2 (by have := (deep_ok (i := 0) (by decide) hK).1; omega)
          have D := fun w => deep_any K hK (opnL 0) (clsL 0) (by decide) (by decide) w
          rw [← deepL_eq] at D
          have R : ∀ {n pl er}, TreP (deepL K 0) false n pl er → _ := fun h => deep_read (i := 0) (by decide) hK h
          generalize deepL K 0 = src at *
          have eo : (⟨#[40]⟩ : ByteArray) = strOfNums (opnL 0) := rfl
          have ec : (⟨#[41]⟩ : ByteArray) = strOfNums (clsL 0) := rfl
          rw [← eo, ← ec] at D
          clear eo ec
          go_wp2_with fail
          refine (D _).mono ?_
          rintro e w2 ⟨rfl, rfl⟩
          have B2 : Below wr.heap.size wr ((wr.alloc (.cells #[.string ⟨#[40]⟩, .string ⟨#[91]⟩, .string ⟨#[35, 40]⟩, .string ⟨#[120, 58, 61]⟩] 9)).alloc (.cells #[.string ⟨#[41]⟩, .string ⟨#[93]⟩, .string ⟨#[41]⟩, .string ⟨#[]⟩] 9)) := two_below
          generalize (wr.alloc (.cells #[.string ⟨#[40]⟩, .string ⟨#[91]⟩, .string ⟨#[35, 40]⟩, .string ⟨#[120, 58, 61]⟩] 9)).alloc (.cells #[.string ⟨#[41]⟩, .string ⟨#[93]⟩, .string ⟨#[41]⟩, .string ⟨#[]⟩] 9) = w2 at *
          have B02 := hB.trans (B2.mono hB.size)
          generalize wr.heap.size = h1 at *
          go_wp2_with fail
          refine (P _).mono ?_
          rintro e w3 ⟨n, pl, er, v, ht, rfl, hn, B3⟩
          have ht := R ht
          have B03 := B02.trans (B3.mono B02.size)
          obtain ⟨na, nc, ka, kc, _, rfl, _⟩ := NdV.parts hn
          clear hn P D R B2 B02 B3
          go_wp2_with (refine al25 _ rfl rfl ?_)
          intro q4 w4 E4 hq4 B4
          go_wp2_with (refine st25 _ rfl _ _ rfl rfl _ _ _ _ _ _ _ _ _ _ _ rfl rfl E4 ?_)
          intro w5 E5 S5
          have B05 := B03.trans ((B4.trans (S5.below hq4)).mono B03.size)
          clear E4 E5 S5 B4 B03
          rcases ht with ⟨hk, rfl, rfl⟩ | ⟨hk, rfl, rfl⟩
          · have hkI : ¬ (40 : Int) < (K : Int) := by omega
            rw [Int.natCast_zero]
            go_wp2
            go_roundw
            case rel => exact ⟨0 + 1, rfl, by decide, B05⟩
            case measure => decide
          · have hkI : (40 : Int) < (K : Int) := by omega
            have hda : ((deepAt 0 : Nat) : Int) = 40 := rfl
            rw [hda]
            go_wp2
            go_roundw
            case rel => exact ⟨0 + 1, rfl, by decide, B05⟩
            case measure => decide
        · have P := fun w => parse_any 8 false (.inl ⟨rfl, rfl⟩) (deepL K 1) w (deep_ok (i := 1) (by decide) hK).2 (by have := (deep_ok (i := 1) (by decide) hK).1; omega)
          have D := fun w => deep_any K hK (opnL 1) (clsL 1) (by decide) (by decide) w
          rw [← deepL_eq] at D
          have R : ∀ {n pl er}, TreP (deepL K 1) false n pl er → _ := fun h => deep_read (i := 1) (by decide) hK h
          generalize deepL K 1 = src at *
          have eo : (⟨#[91]⟩ : ByteArray) = strOfNums (opnL 1) := rfl
          have ec : (⟨#[93]⟩ : ByteArray) = strOfNums (clsL 1) := rfl
          rw [← eo, ← ec] at D
          clear eo ec
          go_wp2_with fail
          refine (D _).mono ?_
          rintro e w2 ⟨rfl, rfl⟩
          have B2 : Below wr.heap.size wr ((wr.alloc (.cells #[.string ⟨#[40]⟩, .string ⟨#[91]⟩, .string ⟨#[35, 40]⟩, .string ⟨#[120, 58, 61]⟩] 9)).alloc (.cells #[.string ⟨#[41]⟩, .string ⟨#[93]⟩, .string ⟨#[41]⟩, .string ⟨#[]⟩] 9)) := two_below
          generalize (wr.alloc (.cells #[.string ⟨#[40]⟩, .string ⟨#[91]⟩, .string ⟨#[35, 40]⟩, .string ⟨#[120, 58, 61]⟩] 9)).alloc (.cells #[.string ⟨#[41]⟩, .string ⟨#[93]⟩, .string ⟨#[41]⟩, .string ⟨#[]⟩] 9) = w2 at *
          have B02 := hB.trans (B2.mono hB.size)
          generalize wr.heap.size = h1 at *
          go_wp2_with fail
          refine (P _).mono ?_
          rintro e w3 ⟨n, pl, er, v, ht, rfl, hn, B3⟩
          have ht := R ht
          have B03 := B02.trans (B3.mono B02.size)
          obtain ⟨na, nc, ka, kc, _, rfl, _⟩ := NdV.parts hn
          clear hn P D R B2 B02 B3
          go_wp2_with (refine al25 _ rfl rfl ?_)
          intro q4 w4 E4 hq4 B4
          go_wp2_with (refine st25 _ rfl _ _ rfl rfl _ _ _ _ _ _ _ _ _ _ _ rfl rfl E4 ?_)
          intro w5 E5 S5
          have B05 := B03.trans ((B4.trans (S5.below hq4)).mono B03.size)
          clear E4 E5 S5 B4 B03
          rcases ht with ⟨hk, rfl, rfl⟩ | ⟨hk, rfl, rfl⟩
          · have hkI : ¬ (40 : Int) < (K : Int) := by omega
            rw [Int.natCast_zero]
            go_wp2
            go_roundw
            case rel => exact ⟨1 + 1, rfl, by decide, B05⟩
            case measure => decide
          · have hkI : (40 : Int) < (K : Int) := by omega
            have hda : ((deepAt 1 : Nat) : Int) = 40 := rfl
            rw [hda]
            go_wp2
            go_roundw
            case rel => exact ⟨1 + 1, rfl, by decide, B05⟩
            case measure => decide
        · have P := fun w => parse_any 8 false (.inl ⟨rfl, rfl⟩) (deepL K 2) w (deep_ok (i := 2) (by decide) hK).2 (by have := (deep_ok (i := 2) (by decide) hK).1; omega)
          have D := fun w => deep_any K hK (opnL 2) (clsL 2) (by decide) (by decide) w
          rw [← deepL_eq] at D
          have R : ∀ {n pl er}, TreP (deepL K 2) false n pl er → _ := fun h => deep_read (i := 2) (by decide) hK h
          generalize deepL K 2 = src at *
          have eo : (⟨#[35, 40]⟩ : ByteArray) = strOfNums (opnL 2) := rfl
          have ec : (⟨#[41]⟩ : ByteArray) = strOfNums (clsL 2) := rfl
          rw [← eo, ← ec] at D
          clear eo ec
          go_wp2_with fail
          refine (D _).mono ?_
          rintro e w2 ⟨rfl, rfl⟩
          have B2 : Below wr.heap.size wr ((wr.alloc (.cells #[.string ⟨#[40]⟩, .string ⟨#[91]⟩, .string ⟨#[35, 40]⟩, .string ⟨#[120, 58, 61]⟩] 9)).alloc (.cells #[.string ⟨#[41]⟩, .string ⟨#[93]⟩, .string ⟨#[41]⟩, .string ⟨#[]⟩] 9)) := two_below
          generalize (wr.alloc (.cells #[.string ⟨#[40]⟩, .string ⟨#[91]⟩, .string ⟨#[35, 40]⟩, .string ⟨#[120, 58, 61]⟩] 9)).alloc (.cells #[.string ⟨#[41]⟩, .string ⟨#[93]⟩, .string ⟨#[41]⟩, .string ⟨#[]⟩] 9) = w2 at *
          have B02 := hB.trans (B2.mono hB.size)
          generalize wr.heap.size = h1 at *
          go_wp2_with fail
          refine (P _).mono ?_
          rintro e w3 ⟨n, pl, er, v, ht, rfl, hn, B3⟩
          have ht := R ht
          have B03 := B02.trans (B3.mono B02.size)
          obtain ⟨na, nc, ka, kc, _, rfl, _⟩ := NdV.parts hn
          clear hn P D R B2 B02 B3
          go_wp2_with (refine al25 _ rfl rfl ?_)
          intro q4 w4 E4 hq4 B4
          go_wp2_with (refine st25 _ rfl _ _ rfl rfl _ _ _ _ _ _ _ _ _ _ _ rfl rfl E4 ?_)
          intro w5 E5 S5
          have B05 := B03.trans ((B4.trans (S5.below hq4)).mono B03.size)
          clear E4 E5 S5 B4 B03
          rcases ht with ⟨hk, rfl, rfl⟩ | ⟨hk, rfl, rfl⟩
          · have hkI : ¬ (40 : Int) < (K : Int) := by omega
            rw [Int.natCast_zero]
            go_wp2
            go_roundw
            case rel => exact ⟨2 + 1, rfl, by decide, B05⟩
            case measure => decide
          · have hkI : (40 : Int) < (K : Int) := by omega
            have hda : ((deepAt 2 : Nat) : Int) = 80 := rfl
            rw [hda]
            go_wp2
            go_roundw
            case rel => exact ⟨2 + 1, rfl, by decide, B05⟩
            case measure => decide
        · have P := fun w => parse_any 8 false (.inl ⟨rfl, rfl⟩) (deepL K 3) w (deep_ok (i := 3) (by decide) hK).2 (by have := (deep_ok (i := 3) (by decide) hK).1; omega)
          have D := fun w => deep_any K hK (opnL 3) (clsL 3) (by decide) (by decide) w
          rw [← deepL_eq] at D
          have R : ∀ {n pl er}, TreP (deepL K 3) false n pl er → _ := fun h => deep_read (i := 3) (by decide) hK h
          generalize deepL K 3 = src at *
          have eo : (⟨#[120, 58, 61]⟩ : ByteArray) = strOfNums (opnL 3) := rfl
          have ec : (⟨#[]⟩ : ByteArray) = strOfNums (clsL 3) := rfl
          rw [← eo, ← ec] at D
          clear eo ec
          go_wp2_with fail
          refine (D _).mono ?_
          rintro e w2 ⟨rfl, rfl⟩
          have B2 : Below wr.heap.size wr ((wr.alloc (.cells #[.string ⟨#[40]⟩, .string ⟨#[91]⟩, .string ⟨#[35, 40]⟩, .string ⟨#[120, 58, 61]⟩] 9)).alloc (.cells #[.string ⟨#[41]⟩, .string ⟨#[93]⟩, .string ⟨#[41]⟩, .string ⟨#[]⟩] 9)) := two_below
          generalize (wr.alloc (.cells #[.string ⟨#[40]⟩, .string ⟨#[91]⟩, .string ⟨#[35, 40]⟩, .string ⟨#[120, 58, 61]⟩] 9)).alloc (.cells #[.string ⟨#[41]⟩, .string ⟨#[93]⟩, .string ⟨#[41]⟩, .string ⟨#[]⟩] 9) = w2 at *
          have B02 := hB.trans (B2.mono hB.size)
          generalize wr.heap.size = h1 at *
          go_wp2_with fail
          refine (P _).mono ?_
          rintro e w3 ⟨n, pl, er, v, ht, rfl, hn, B3⟩
          have ht := R ht
          have B03 := B02.trans (B3.mono B02.size)
          obtain ⟨na, nc, ka, kc, _, rfl, _⟩ := NdV.parts hn
          clear hn P D R B2 B02 B3
          go_wp2_with (refine al25 _ rfl rfl ?_)
          intro q4 w4 E4 hq4 B4
          go_wp2_with (refine st25 _ rfl _ _ rfl rfl _ _ _ _ _ _ _ _ _ _ _ rfl rfl E4 ?_)
          intro w5 E5 S5
          have B05 := B03.trans ((B4.trans (S5.below hq4)).mono B03.size)
          clear E4 E5 S5 B4 B03
          rcases ht with ⟨hk, rfl, rfl⟩ | ⟨hk, rfl, rfl⟩
          · have hkI : ¬ (40 : Int) < (K : Int) := by omega
            rw [Int.natCast_zero]
            go_wp2
            go_roundw
            case rel => exact ⟨3 + 1, rfl, by decide, B05⟩
            case measure => decide
          · have hkI : (40 : Int) < (K : Int) := by omega
            have hda : ((deepAt 3 : Nat) : Int) = 121 := rfl
            rw [hda]
            go_wp2
            go_roundw
            case rel => exact ⟨3 + 1, rfl, by decide, B05⟩
            case measure => decide
        · go_wp2_with fail
          refine (known_true _).mono ?_
          rintro e w3 ⟨rfl, B3⟩
          go_wp2
          go_ret
          exact ⟨rfl, hB.trans (B3.mono hB.size)⟩
end Go.Proofs.YtncfmhlikmibaaaGreatDoor
