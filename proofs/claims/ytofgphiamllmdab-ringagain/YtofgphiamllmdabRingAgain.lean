/- For every int n, every list acts of acts and every list keep of bools, lapidarylaw04.RingAgain(n, acts, keep) returns true (whatever was done, opened again, and behind another crash, the log tells the same records; and the fixed calls on a device of ten sectors come out as known), and each argument reads afterwards as it read before; no condition. -/
import Derived.Test.YtofgphiamllmdabRows
import Derived.Test.YtofgphiamllmdabPlayC
import Derived.WalkKit
import Derived.ProofKit
import Derived.OpenShut
import Derived.ShutString
import Derived.SizedLaws
import Derived.ChangeOld
import Derived.Below
namespace Go.Proofs.Ytofgphiamllmdab
open Go.RowKit
set_option maxRecDepth 100000
theorem Bools.belowX {w w' : World} {ka : Option Addr} {kl : Nat} {ks : List Bool} (h : Bools w ka kl ks) (hb : ∀ b off, ka = some ⟨b, off, none⟩ → 0 < kl → b < w.heap.size) (B : Below w.heap.size w w') : Bools w' ka kl ks := ⟨h.size, fun h0 => by
  obtain ⟨b', o', e, hc⟩ := h.cell h0
  exact ⟨b', o', e, fun i hi => (B.cell (p := ⟨b', o' + i, none⟩) (hb b' o' e h0)).trans (hc i hi)⟩⟩
/-- A device that is whole, its records known. -/
def Rest (w wr : World) (p bs bn S hs sb : Nat) (rs : List (Int × List Int)) (sv : Value) (j : Nat) : Prop := ∃ G life b c hf first since mv, Dev wr w.heap.size p bs bn (.slice none 0 0) (S : Int) G G [] 0 false ∧ Good G hs life b c hf first since rs ∧ life ≤ 100 + (j : Int) ∧ first + (rs.length : Int) ≤ 1000 ∧ wr.heap[sb]? = some (storyO p sv mv) ∧ Below w.heap.size w wr ∧ RL wr sv (rs.map (·.2))
set_option maxHeartbeats 8000000 in
theorem ringAgain_law (w : World) (n : Int) (sa : Option Addr) (len cap : Nat) (ha : ActsR w sa len) (ka : Option Addr) (kl kc : Nat) (ks : List Bool) (hk : Bools w ka kl ks) (hkb : ∀ b off, ka = some ⟨b, off, none⟩ → 0 < kl → b < w.heap.size) (hkl : kl ≤ 9223372036854775807) : Calls Try.prog 6 #[.int .i64 n, .slice sa len cap, .slice ka kl kc] w fun e w' => e = .returned (.bool true) ∧ Below w.heap.size w w' := by
  go_enter Try.func6, Try.ntmps6
  go_wp2_with fail
  refine (count_any n 40 (by decide) (by decide) w).mono ?_
  rintro e wq ⟨⟨r, hr, rfl⟩, rfl⟩
  have hwr : IntKind.i64.wrap (8 + (r : Int)) = ((8 + r : Nat) : Int) := by rw [IntKind.wrap_i64]; omega
  obtain ⟨S, hS⟩ : ∃ S, Hid (8 + r = S) := ⟨_, rfl⟩
  have hS0 : 8 ≤ S := by have := hS.out; omega
  have hS1 : S ≤ 100 := by have := hS.out; omega
  rw [hS.out] at hwr
  clear hS
  go_wp2_with fail
  refine (play_any w S hS0 hS1 sa len cap ha).mono ?_
  rintro e w1 ⟨sb, p, bs, bn, lb, hs, rs, sv, mv, rfl, hhs, T, R⟩
  replace hhs : Hid (hs = (S - 2) / 2) := hhs
  obtain ⟨va, vn, vc, rfl⟩ : ∃ a n c, sv = .slice a n c := by
    obtain ⟨a, c, e⟩ := R.shape
    exact ⟨_, _, _, e⟩
  obtain ⟨G, left, life, hf, first, since, V, k1, k2⟩ := T.L
  have E1 := T.st
  have B1 := T.B
  clear T
  obtain ⟨s0, s1, s2, sf⟩ := story_cells E1
  go_wp2_with fail
  refine (fail_any V.D 0 (by decide)).mono ?_
  rintro e w2 ⟨rfl, D2, F2⟩
  have E2 : w2.heap[sb]? = some (storyO p (.slice va vn vc) mv) := F2.blk V.D E1 (by decide) (by decide)
  have R2 := R.keep (Keeps.of_fr F2 V.D)
  have B2 := B1.trans (F2.below V.D)
  have g2 := V.g
  clear E1 B1 F2 V R s0 s1 s2 sf
  obtain ⟨s0, s1, s2, sf⟩ := story_cells E2
  have sep : ∀ {wx : World} {G0 G1 : Int → List Int} {left : Int}, Dev wx w.heap.size p bs bn (.slice none 0 0) (S : Int) G0 G1 [] left false → ∀ b off, ka = some ⟨b, off, none⟩ → 0 < kl → b ≠ p ∧ b ≠ bs ∧ b ≠ bn ∧ (Value.slice none 0 0).ownBlock ≠ some b := fun D b off e h0 => by
    have hb := hkb b off e h0
    have h1 := D.fromP
    have h2 := D.fromS
    have h3 := D.fromN
    exact ⟨by omega, by omega, by omega, fun e => by cases e⟩
  go_wp2_with fail
  refine (Crash_long D2 (fun _ => rfl) ka kl kc ks (hk.belowX hkb B2) hkl (by decide) (sep D2)).mono ?_
  rintro e w3 ⟨rfl, D3, F3⟩
  have E3 : w3.heap[sb]? = some (storyO p (.slice va vn vc) mv) := F3.blk D2 E2 (by decide) (by decide)
  have st3 : Rest w w3 p bs bn S hs sb rs (.slice va vn vc) 0 := ⟨G, life, _, _, hf, first, since, mv, D3, g2, by push_cast at k1 ⊢; omega, by push_cast at k2 ⊢; omega, E3, B2.trans (F3.below D2), R2.keep (Keeps.of_fr F3 D2)⟩
  clear D2 E2 R2 B2 D3 F3 E3 s0 s1 s2 sf g2 k1 k2
  go_wp2
  go_loopw [8] (fun iv wr => ∃ j : Nat, j ≤ 3 ∧ iv = .int .i64 (j : Int) ∧ Rest w wr p bs bn S hs sb rs (.slice va vn vc) j) (fun iv _ => 3 - (intOf iv).toNat)
  case atStart => exact ⟨0, by decide, rfl, st3⟩
  case round =>
    clear st3
    obtain ⟨j, hj, rfl, G, life, b, c, hf, first, since, mv, D, g, k1, k2, E, B, R⟩ := hrel
    obtain ⟨s0, s1, s2, sf⟩ := story_cells E
    by_cases hj3 : j = 3
    · subst hj3
      go_wp2_with fail
      refine (known_true wr).mono ?_
      rintro e w2 ⟨rfl, B2⟩
      have B3 := below_size B (Nat.le_refl _) B2
      clear B B2
      go_wp2
      go_ret
      exact ⟨rfl, B3⟩
    · have hlt : (j : Int) < 3 := by omega
      have f1 := g.f1
      go_wp2_with fail
      refine (open_live D g (by omega) (by omega) hhs.out (by omega) (by omega)).mono ?_
      rintro e w6 ⟨lb6, v6, G6, rfl, hlb6, V6, RC6, F6⟩
      have E6 : w6.heap[sb]? = some (storyO p (.slice va vn vc) mv) := F6.blk D E (by decide) (by decide)
      have R6 := R.keep (Keeps.of_fr F6 D)
      have B6 := B.trans (F6.below D)
      have Q6 := RL.of_recs RC6 R6.facts
      clear D F6 E B R RC6 g s0 s1 s2 sf
      obtain ⟨xa, xn, xc, rfl⟩ : ∃ a n c, v6 = .slice a n c := by
        obtain ⟨a, c, e⟩ := Q6.shape
        exact ⟨_, _, _, e⟩
      obtain ⟨s0, s1, s2, sf⟩ := story_cells E6
      go_wp2_with fail
      refine (same_true Q6 R6 (by rw [List.length_map]; omega)).mono ?_
      rintro e w7 ⟨rfl, B7⟩
      have V7 := V6.below B7
      have E7 := (B7.block sb (lt_of_block E6)).trans E6
      have R7 := R6.keep (Keeps.of_below B7)
      have BB := below_size B6 (Nat.le_refl _) B7
      have lf := V7.D
      clear s0 s1 s2 sf Q6 R6 B6 E6 V6 B7
      obtain ⟨s0, s1, s2, sf⟩ := story_cells E7
      go_wp2_with fail
      refine (Crash_long V7.D (fun _ => rfl) ka kl kc ks (hk.belowX hkb BB) hkl (by decide) (sep V7.D)).mono ?_
      rintro e w8 ⟨rfl, D8, F8⟩
      have st8 : Rest w w8 p bs bn S hs sb rs (.slice va vn vc) (j + 1) := ⟨G6, life + 1, _, _, hf, first, since, mv, D8, V7.g, by push_cast; omega, k2, F8.blk V7.D E7 (by decide) (by decide), BB.trans (F8.below V7.D), R7.keep (Keeps.of_fr F8 V7.D)⟩
      clear D8 F8 V7 E7 R7 BB lf s0 s1 s2 sf
      have hw1 : IntKind.i64.wrap ((j : Int) + 1) = (j : Int) + 1 := by rw [IntKind.wrap_i64]; omega
      go_wp2
      go_roundw
      case rel => exact ⟨j + 1, by omega, by push_cast; rfl, st8⟩
      case measure => simp [intOf]; omega
end Go.Proofs.Ytofgphiamllmdab
namespace Go.Proofs.Ytofgphiamllmdab.ringAgain
open Go.ChangeShapes Go.WideShapes Go.ChangeAt Go.RowKit
open Go.ChangeMaps (open_string shut_string)
set_option linter.unusedVariables false

theorem own : ownKnob Try.prog.godebug = none := by kernel_rfl
theorem laidOut : laidOutB Try.prog = true := by kernel_rfl

set_option maxRecDepth 100000 in
theorem lifted (os : Os) (started : os.Started) (H : Type) (enc : TypeId × Value → H) :
    ReturnsInHanded {} Try.checked os 6 .any (Rows.ringAgainSpec.pre6 enc Try.prog Try.f6 Rows.ringAgainRow.domain false) (Rows.ringAgainSpec.post enc Try.prog Try.f6 false true false false) := by
  refine returnsInHanded_of_change_sized (C := Try.checked) own started (by kernel_rfl) Try.func6
    (ChangeSpec.witness6 (enc := enc) (C := Try.checked) false ⟨#[], #[.int .i64 0, .slice none 0 0, .slice none 0 0], []⟩ 8 (by kernel_rfl) (by kernel_rfl) (by kernel_rfl) (by kernel_rfl)) ?_
  intro W base args ds gs before hval0 hW hcnd hsz0 _
  have hval : ∀ (j : Nat) t v, Try.f6.params[j]? = some t → args[j]? = some v → Value.okWide Try.prog W .any base t v := hval0
  clear hsz0
  have hW' := hW
  obtain ⟨p, q, hA0, hV, rfl, hfz, hnd⟩ := hW
  have hA : DataW.TrodAll enc Try.prog W 0 (fun _ => true) true Try.f6.params.toList args.toList ds p := hA0
  rw [Try.params6] at hA hval
  obtain ⟨v0, vs0, d0, ds0, p0, q0, hargs, rfl, rfl, h0, r0⟩ := trodAll_cons hA
  obtain ⟨v1, vs1, d1, ds1, p1, q1, rfl, rfl, rfl, h1, r1⟩ := trodAll_cons r0
  obtain ⟨v2, vs2, d2, ds2, p2, q2, rfl, rfl, rfl, h2, r2⟩ := trodAll_cons r1
  obtain ⟨rfl, rfl, rfl⟩ := trodAll_nil r2
  obtain rfl : args = #[v0, v1, v2] := by cases args; simp_all
  obtain ⟨rfl, rfl⟩ := trodVars_none hV
  obtain ⟨a0, rfl, rfl, rfl, w0⟩ := open_int Try.underlying3 (hval 0 3 v0 rfl rfl) h0
  obtain ⟨a1, len1, cap1, rfl⟩ := okWide_slice Try.underlying22 (hval 1 22 v1 rfl rfl)
  have k1 := h1
  have lt1 : ∀ x ∈ p1, x.block < W.heap.size := by obtain ⟨m, hm⟩ := k1; exact DataW.trod_lt m _ _ _ hm
  have A1 : ActsR W a1 len1 := by
    obtain ⟨fuel, hf⟩ := h1
    exact open_actsX hf
  obtain ⟨a2, len2, cap2, rfl⟩ := okWide_slice Try.underlying35 (hval 2 35 v2 rfl rfl)
  have k2 := h2
  have lt2 : ∀ x ∈ p2, x.block < W.heap.size := by obtain ⟨m, hm⟩ := k2; exact DataW.trod_lt m _ _ _ hm
  obtain ⟨ks2, B2, b2, n2⟩ : ∃ ks, Bools W a2 len2 ks ∧ (∀ b off, a2 = some ⟨b, off, none⟩ → 0 < len2 → b < W.heap.size) ∧ len2 ≤ 9223372036854775807 := by
    obtain ⟨fuel, hf⟩ := h2
    obtain ⟨a, len, cap, ks, e, hB, hb, hl⟩ := open_boolsX hf
    simp [Value.cells] at e
    obtain ⟨rfl, rfl, rfl⟩ := e
    exact ⟨ks, hB, hb, hl⟩
  clear hA0 hval0
  refine (ringAgain_law W a0 a1 len1 cap1 A1 a2 len2 cap2 ks2 B2 b2 n2).mono fun e W' ⟨he, bel⟩ => ?_
  subst he
  exact ⟨_, rfl, _, _, _, [], _, [], hW', trodAll_mk1 (shut_bool Try.underlying4 _), (trodAll_cons_mk (shut_int Try.underlying3 w0) (trodAll_cons_mk (Below.trod laidOut (by kernel_rfl) (of_decide_eq_true (by kernel_rfl)) k1 bel lt1) (trodAll_cons_mk (Below.trod laidOut (by kernel_rfl) (of_decide_eq_true (by kernel_rfl)) k2 bel lt2) trodAll_mk0))), rfl, bel.frame _, fun h => by cases h⟩

theorem over : Rows.ringAgainRow.holds Try.pinned (OpenSpec.ofChange Rows.ringAgainSpec) :=
  OpenClaim.holds_of_wide 6 Try.f6 rfl rfl rfl rfl rfl rfl rfl ⟨rfl, rfl, rfl, rfl, rfl⟩ rfl rfl rfl rfl rfl (by kernel_rfl) Try.func6 (by kernel_rfl)
    (of_decide_eq_true (by kernel_rfl)) (by unfold Func.isWrapper; first | (rw [if_pos (by decide +kernel)]; kernel_rfl) | (rw [if_neg (by decide +kernel)]; exact ⟨rfl, rfl⟩))
    (fun os started H enc _ => lifted os started H enc)

end Go.Proofs.Ytofgphiamllmdab.ringAgain

namespace Go.Proofs.Ytofgphiamllmdab
/-- The statement. -/
theorem RingAgain_holds : Rows.RingAgainSaid := ringAgain.over
#print axioms RingAgain_holds
end Go.Proofs.Ytofgphiamllmdab
