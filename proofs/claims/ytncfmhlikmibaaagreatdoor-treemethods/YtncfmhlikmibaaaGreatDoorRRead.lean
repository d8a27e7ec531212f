/- The document's Read. -/
import Derived.Test.YtncfmhlikmibaaaGreatDoorRAdd
import Derived.Deep.CutRange
namespace Go.Proofs.YtncfmhlikmibaaaGreatDoor
open Go.RowKit
set_option maxRecDepth 100000
set_option maxHeartbeats 16000000

theorem Zkr {d : List Int} (hb : ∀ x ∈ d, 0 ≤ x ∧ x < 256) (k : Nat) (hk : k < d.length) : 0 ≤ d.getD k 0 ∧ d.getD k 0 < 256 := hb (d.getD k 0) (by rw [show d.getD k 0 = d[k] by simp [hk]]; exact List.getElem_mem hk)
theorem rd_bad {ss : List Int} (h : Zpt ss = false) : Hid (rdB ss = false) ∧ Hid (rdE ss = 11) ∧ Hid (rdM ss = []) :=
 ⟨by show _ = _; unfold rdB; rw [h]; rfl, by show _ = _; unfold rdE; rw [h]; rfl, by show _ = _; unfold rdM; rw [h]; rfl⟩
theorem rd_long {ss : List Int} (h : Zpt ss = true) (h4 : ¬ ss.length ≤ 400) : Hid (rdB ss = false) ∧ Hid (rdE ss = 24) ∧ Hid (rdM ss = []) :=
 ⟨by show _ = _; unfold rdB; rw [if_pos h, if_neg h4], by show _ = _; unfold rdE; rw [if_pos h, if_neg h4], by show _ = _; unfold rdM; rw [if_pos h, if_neg h4]⟩
theorem rd_good {ss d : List Int} {nb : Bool} (h : Zpt ss = true) (h4 : ss.length ≤ 400) (hd : rdD ss = d) (hn : Zea ss = nb) : Hid (rdB ss = Zqv nb (Zb2 d)) ∧ Hid (rdE ss = Zqu (Zb2 d)) ∧ Hid (rdM ss = Zqt (Zb2 d)) :=
 ⟨by show _ = _; unfold rdB; rw [if_pos h, if_pos h4, hd, hn], by show _ = _; unfold rdE; rw [if_pos h, if_pos h4, hd], by show _ = _; unfold rdM; rw [if_pos h, if_pos h4, hd]⟩
theorem drop_str (ss : List Int) : (strOfNums ss).extract 1 ss.length = strOfNums (ss.drop 1) := by
 cases ss with
 | nil => rfl
 | cons c r => exact Zmx c r
theorem val8_one (x : Nat) : Zbv [(x : Int)] = x := by simp [Zbv]
set_option maxRecDepth 100000 in
theorem Zpq (ss : List Int) (w : World) (hb : ∀ x ∈ ss, 0 ≤ x ∧ x < 256) (hm : ss.length ≤ 9223372036854775807) :
  Calls Tryz.prog 74 #[.string (strOfNums ss)] w fun e w' => ∃ v, e = .returned (.tuple #[.agg #[.bool (rdB ss), v], .int .i64 (rdE ss)]) ∧ Zdp w' w.heap.size v (rdM ss) ∧ Below w.heap.size w w' := by
 have hB1 := Zfg w (.cells #[.bool false, .slice none 0 0] 101)
 have z := heap_alloc_new w (.cells #[.bool false, .slice none 0 0] 101)
 have hs1 : (w.alloc (.cells #[.bool false, .slice none 0 0] 101)).heap.size = w.heap.size + 1 := by simp
 have hsz : (strOfNums ss).size = ss.length := strOfNums_size ss
 obtain ⟨d, hd⟩ : ∃ d, rdD ss = d := ⟨_, rfl⟩
 obtain ⟨N, hNN⟩ : ∃ N, Zea ss = N := ⟨_, rfl⟩
 obtain ⟨o0, ho⟩ : ∃ o, (decide (d ≠ []) && (!(d.getD 0 0 == 48) || decide (ss.length = 1))) = o := ⟨_, rfl⟩
 have hok : Hid (Zpt ss = (o0 && Zc8 d)) := by show _ = _; unfold Zpt; rw [hd, ho]
 have hdr : d = if N then ss.drop 1 else ss := by rw [← hd, ← hNN]; rfl
 have hNp : N = true → 0 < ss.length := fun e => by
  rw [e] at hNN
  cases ss with
  | nil => cases hNN
  | cons x y => exact Nat.zero_lt_succ _
 have hdb : ∀ x ∈ d, 0 ≤ x ∧ x < 256 := fun x hx => by
  rw [hdr] at hx
  cases N
  ·exact hb x hx
  exact hb x (List.mem_of_mem_drop hx)
 have hdl : d.length ≤ ss.length := by rw [← hd]; exact Zpu ss
 have hcm : Hid (decide ((d.length : Int) < (ss.length : Int)) = N ∧ decide (d.length < ss.length) = N) := by
  cases N
  ·have e : d = ss := hdr
   rw [e]
   exact ⟨decide_eq_false (by omega), decide_eq_false (by omega)⟩
  have e : d = ss.drop 1 := hdr
  have h1 := hNp rfl
  have h2 : d.length = ss.length - 1 := by rw [e, List.length_drop]
  exact ⟨decide_eq_true (by omega), decide_eq_true (by omega)⟩
 have hD : Hid (rdD ss = d) := hd
 have hN : Hid (Zea ss = N) := hNN
 have hSs : (strOfNums d).size = d.length := strOfNums_size d
 have hdm : d.length ≤ 9223372036854775807 := by omega
 clear hd
 go_enter Tryz.func74, Tryz.ntmps74
 go_upto_region 2 with fail
 go_cut [17] from 9 to 17 (fun v wx => v = .bool N ∧ wx = w.alloc (.cells #[.bool false, .slice none 0 0] 101))
 case first =>
  by_cases h0 : ss.length = 0
  ·have h0' : ¬ (0 : Int) < (ss.length : Int) := by omega
   have hnf : N = false := by
    cases hn : N with
    | false => rfl
    | true => exact absurd (hNp hn) (by omega)
   clear hdr
   go_wp2
   go_meet
   case rel => exact ⟨by rw [hnf], rfl⟩
  have hp : (0 : Int) < (ss.length : Int) := by omega
  have hat0 := Zbd ss hb 0 (by omega)
  have hc0 := Zkr hb 0 (show 0 < ss.length by omega)
  have hn : (ss.getD 0 0 == 45) = N := by rw [← hNN]; rfl
  obtain ⟨d0, hd0⟩ : ∃ x, ss.getD 0 0 = x := ⟨_, rfl⟩
  rw [hd0] at hat0 hc0 hn
  cases hNv : N with
  | true =>
   rw [hNv] at hn
   obtain rfl : d0 = 45 := by simpa using hn
   clear hdr
   go_wp2
   go_meet
   case rel => exact ⟨by rw [hNv], rfl⟩
  | false =>
   rw [hNv] at hn
   clear hdr
   go_wp2
   go_meet
   case rel => exact ⟨by rw [hNv], rfl⟩
 case rest =>
 obtain ⟨rfl, rfl⟩ := hcut
 go_upto_if 17 with fail
 go_cut [4] from 18 to 19 (fun v wx => v = .string (strOfNums d) ∧ wx = w.alloc (.cells #[.bool false, .slice none 0 0] 101))
 case first =>
  cases N with
  | true =>
   have hS := drop_str ss
   have e : ss.drop 1 = d := hdr.symm
   have h1 := hNp rfl
   have h0 : ¬ ss.length = 0 := by omega
   have hp : (0 : Int) < (ss.length : Int) := by omega
   have hdl1 : d.length + 1 = ss.length := by rw [← e, List.length_drop]; omega
   rw [e] at hS
   clear hdr e
   go_wp2
   go_meet
   case rel => exact ⟨rfl, rfl⟩
  | false =>
   have e : ss = d := hdr.symm
   clear hdr
   go_wp2
   go_meet
   case rel => exact ⟨by rw [e], rfl⟩
 case rest =>
 obtain ⟨rfl, rfl⟩ := hcut
 clear hdr hNp hNN
 go_upto_region 4 with fail
 go_cut [5] from 20 to 32 (fun v wx => v = .bool o0 ∧ wx = w.alloc (.cells #[.bool false, .slice none 0 0] 101))
 case first =>
  clear hcm hok
  by_cases hd0 : d.length = 0
  ·have hd0' : ¬ (0 : Int) < (d.length : Int) := by omega
   have e : o0 = false := by rw [← ho, List.eq_nil_of_length_eq_zero hd0]; rfl
   go_wp2
   go_meet
   case rel => exact ⟨by rw [e], rfl⟩
  have hdp : (0 : Int) < (d.length : Int) := by omega
  have hatd := Zbd d hdb 0 (by omega)
  have hdc := Zkr hdb 0 (show 0 < d.length by omega)
  have hne : decide (d ≠ []) = true := decide_eq_true fun e => hd0 (by rw [e]; rfl)
  rw [hne, Bool.true_and] at ho
  obtain ⟨c0, hc0⟩ : ∃ x, d.getD 0 0 = x := ⟨_, rfl⟩
  rw [hc0] at hatd hdc ho
  by_cases h48 : c0 = 48
  ·subst h48
   by_cases hl1 : ss.length = 1
   ·have hl1' : ((ss.length : Int) == 1) = true := by simp [hl1]
    rw [decide_eq_true hl1] at ho
    have ho' : o0 = true := ho.symm
    clear hl1
    go_wp2
    go_meet
    case rel => exact ⟨by rw [ho'], rfl⟩
   have hl1' : ((ss.length : Int) == 1) = false := by simp; omega
   rw [decide_eq_false hl1] at ho
   have ho' : o0 = false := ho.symm
   clear hl1
   go_wp2
   go_meet
   case rel => exact ⟨by rw [ho'], rfl⟩
  have h48b : (c0 == 48) = false := by simpa using h48
  rw [h48b] at ho
  have ho' : o0 = true := ho.symm
  go_wp2
  go_meet
  case rel => exact ⟨by rw [ho'], rfl⟩
 case rest =>
 obtain ⟨rfl, rfl⟩ := hcut
 clear ho
 go_wp2_with fail
 generalize w.alloc (.cells #[.bool false, .slice none 0 0] 101) = w1 at *
 go_loop [6, 5] (fun i o => ∃ k : Nat, k ≤ d.length ∧ i = .int .i64 k ∧ o = .bool (o0 && Zc8 (d.take k))) (fun i _ => d.length - (intOf i).toNat)
 case atStart => exact ⟨0, Nat.zero_le _, rfl, by rw [show Zc8 (d.take 0) = true from rfl, Bool.and_true]⟩
 obtain ⟨k, hk, rfl, rfl⟩ := hrel
 by_cases hlt : k < d.length
 ·have hltI : (k : Int) < (d.length : Int) := by omega
  have hat := Zbd d hdb k hlt
  have hcb := Zkr hdb k hlt
  have ht := Zfe d k hlt
  obtain ⟨c, hc⟩ : ∃ c, d.getD k 0 = c := ⟨_, rfl⟩
  rw [hc] at hat hcb ht
  have Ht : Hid ((o0 && Zc8 (d.take (k + 1))) = ((o0 && Zc8 (d.take k)) && (decide (48 ≤ c) && decide (c ≤ 57)))) := by show _ = _; rw [ht, Bool.and_assoc]
  clear ht hc
  obtain ⟨ob, Hob⟩ : ∃ b, Hid ((o0 && Zc8 (d.take k)) = b) := ⟨_, rfl⟩
  rw [Hob.out]
  rw [Hob.out] at Ht
  cases ob with
  | false =>
   go_wp2
   go_round
   case rel => exact ⟨k + 1, by omega, by go_num, by rw [Ht.out]; rfl⟩
   case measure => simp [intOf]; omega
  | true =>
   by_cases h1 : 48 ≤ c
   ·by_cases h2 : c ≤ 57
    ·go_wp2
     go_round
     case rel => exact ⟨k + 1, by omega, by go_num, by rw [Ht.out, decide_eq_true h1, decide_eq_true h2]; rfl⟩
     case measure => simp [intOf]; omega
    have h2' : decide (c ≤ 57) = false := decide_eq_false h2
    go_wp2
    go_round
    case rel => exact ⟨k + 1, by omega, by go_num, by rw [Ht.out, decide_eq_true h1, h2']; rfl⟩
    case measure => simp [intOf]; omega
   have h1' : decide (48 ≤ c) = false := decide_eq_false h1
   go_wp2
   go_round
   case rel => exact ⟨k + 1, by omega, by go_num, by rw [Ht.out, h1']; rfl⟩
   case measure => simp [intOf]; omega
 obtain rfl : k = d.length := by omega
 have hltI : ¬ (d.length : Int) < (d.length : Int) := by omega
 rw [List.take_length]
 obtain ⟨q0, q1, qf0, qf1⟩ := Zcf z
 cases hdg : (o0 && Zc8 d) with
 | false =>
  obtain ⟨e1, e2, e3⟩ := rd_bad (hok.out.trans hdg)
  go_wp2
  exact bodyPost_ret (v := .tuple #[.agg #[.bool false, .slice none 0 0], .int .i64 11]) (by simp [results, Tryz.results74, go_sem, q0, q1]) rfl ⟨.slice none 0 0, by rw [e1.out, e2.out], by rw [e3.out]; exact Zbq (n := 0) (World.ownsRow_nil _ _ _ _) (by simp), Zbg (b := w.heap.size) hB1 zo⟩
 | true =>
  have hdd := (Zkp d).1 (Bool.and_eq_true_iff.1 hdg).2
  by_cases h4 : ss.length ≤ 400
  ·have h4' : ¬ (400 : Int) < (ss.length : Int) := by omega
   obtain ⟨e1, e2, e3⟩ := rd_good (hok.out.trans hdg) h4 hD.out hN.out
   clear hdg hok q0 q1 qf0 qf1
   have hd4 : d.length ≤ 400 := Nat.le_trans hdl h4
   go_wp2
   go_loopw [8, 7] (fun i v wr => ∃ (k : Nat) (zs : List Int), k ≤ d.length ∧ i = .int .i64 k ∧ Zdp wr (w.heap.size + 1) v zs ∧ Hid (Zbv zs = Zb2 (d.take k)) ∧ zs.length ≤ 2 * k ∧ Below w1.heap.size w1 wr) (fun i _ _ => d.length - (intOf i).toNat)
   case atStart => exact ⟨0, [], Nat.zero_le _, rfl, Zbq (n := 0) (World.ownsRow_nil _ _ _ _) (by simp), rfl, Nat.zero_le _, Below.refl _ _⟩
   obtain ⟨k, zs, hk, rfl, hO, hv, hzl, hW⟩ := hrel
   obtain ⟨p, c, rfl, hI⟩ := hO.2
   have hsW := Nat.le_trans (Nat.le_of_eq hs1.symm) hW.size
   by_cases hlt : k < d.length
   ·have hltI : (k : Int) < (d.length : Int) := by omega
    have hat := Zbd d hdb k hlt
    have hdg := hdd (d.getD k 0) (by rw [show d.getD k 0 = d[k] by simp [hlt]]; exact List.getElem_mem hlt)
    have hvt0 := Ziq d k hlt
    obtain ⟨x, hx, hx9⟩ : ∃ x : Nat, d.getD k 0 = (x : Int) + 48 ∧ x ≤ 9 := ⟨(d.getD k 0 - 48).toNat, by omega, by omega⟩
    rw [hx] at hat hvt0
    have hvt : Hid (Zb2 (d.take (k + 1)) = Zb2 (d.take k) * 10 + x) := by show _ = _; rw [hvt0, show ((x : Int) + 48 - 48).toNat = x by omega]
    have hx48 : IntKind.u8.wrap (x : Int) = (x : Int) := by rw [IntKind.wrap_u8]; omega
    have hkS : k < ((strOfNums d)).size := by omega
    clear hvt0 hdg hx
    go_wp2
    refine zR1 (fun A D a w' => ∃ v7 v65 v66 v67 v68 v69 v70 v71 v72 tv tz bp sv sz, a = (((((((((A.put (some 7) v7).put (some 65) v65).put (some 66) v66).put (some 67) v67).put (some 68) v68).put (some 69) v69).put (some 70) v70).put (some 71) v71).put (some 72) v72) ∧ Below wr.heap.size wr w' ∧ (D 8 ∨ v7 = .slice p zs.length c) ∧ (D 0 → v65 = .slice p zs.length c) ∧ (D 1 → v66 = tv) ∧ (D 2 → v67 = .string (strOfNums d)) ∧ (D 3 → v68 = .int .i64 (k : Int)) ∧ (D 4 → v69 = .int .u8 ((x : Int) + 48)) ∧ (D 5 → v70 = .int .u8 (x : Int)) ∧ (D 6 → v71 = .slice (some ⟨bp, 0, none⟩) 1 1) ∧ (D 7 → v72 = sv) ∧ (D 8 → v7 = sv) ∧ (D 1 → Zdp w' (w.heap.size + 1) tv tz) ∧ (D 1 → Zbv tz = Zbv zs * 10) ∧ (D 1 → tz.length ≤ 2 * k + 1) ∧ (D 6 → IsB w' (some ⟨bp, 0, none⟩) 1 1 [(x : Int)]) ∧ (D 7 → Zdp w' (w.heap.size + 1) sv sz) ∧ (D 7 → Zbv sz = Zb2 (d.take (k + 1))) ∧ (D 7 → sz.length ≤ 2 * (k + 1))) ?start ?step ?done
    case start => exact ⟨(.slice p zs.length c), u65, u66, u67, u68, u69, u70, u71, u72, undef, [], 0, undef, [], by kernel_rfl, (Below.refl _ _).drew, .inr rfl, zf, zf, zf, zf, zf, zf, zf, zf, zf, zf, zf, zf, zf, zf, zf, zf⟩
    case step =>
     intro i o ho D a w' hI hn hcl hd
     obtain ⟨v7, v65, v66, v67, v68, v69, v70, v71, v72, tv, tz, bp, sv, sz, ha, hB, y7, e0, e1, e2, e3, e4, e5, e6, e7, e8, O1, V1, L1, I6, O7, V7, L7⟩ := hI
     match i, ho with
     | 0, ho =>
      cases zq ho
      have ev : a.tmps[7]?.getD undef = .slice p zs.length c := by rw [ha, y7.resolve_left (fun h => hn (zc hcl 1 0 rfl (zc hcl 7 1 rfl (zc hcl 8 7 rfl h))))]; kernel_rfl
      exact zx (.slice p zs.length c) (by simp [execOp, ev, go_sem]) ⟨v7, (.slice p zs.length c), v66, v67, v68, v69, v70, v71, v72, tv, tz, bp, sv, sz, by rw [ha]; kernel_rfl, hB, zl y7, fun _ => rfl, zr e1, zr e2, zr e3, zr e4, zr e5, zr e6, zr e7, zr e8, zr O1, zr V1, zr L1, zr I6, zr O7, zr V7, zr L7⟩
     | 1, ho =>
      cases zq ho
      have ev : a.tmps[65]?.getD undef = .slice p zs.length c := by rw [ha, e0 (zd hd 0)]; kernel_rfl
      refine Zan (f := 99) (args := #[.slice p zs.length c, .int .i64 10, .int .i64 0]) (by simp [execOp, ev, go_sem]) ?_
      refine (Zpd 10 0 (hI.below hB) (by omega) (by decide) (by decide)).mono ?_
      rintro e w6 ⟨nv, nz, rfl, nO, nV, nL, HB⟩
      refine ⟨_, rfl, ?_⟩
      exact ⟨v7, v65, (nv), v67, v68, v69, v70, v71, v72, nv, nz, bp, sv, sz, by rw [ha]; kernel_rfl, Zaf hB zo HB, zl y7, zr e0, fun _ => rfl, zr e2, zr e3, zr e4, zr e5, zr e6, zr e7, zr e8, fun _ => nO.mono (Nat.le_trans hsW hB.size), fun _ => by rw [nV]; simp, fun _ => by omega, fun h => (I6 (h.resolve_left (by decide))).below HB, fun h => (O7 (h.resolve_left (by decide))).below HB, zr V7, zr L7⟩
     | 2, ho =>
      cases zq ho
      have ev : a.tmps[4]?.getD undef = .string (strOfNums d) := by rw [ha]; kernel_rfl
      exact zx (.string (strOfNums d)) (by simp [execOp, ev, go_sem]) ⟨v7, v65, v66, (.string (strOfNums d)), v68, v69, v70, v71, v72, tv, tz, bp, sv, sz, by rw [ha]; kernel_rfl, hB, zl y7, zr e0, zr e1, fun _ => rfl, zr e3, zr e4, zr e5, zr e6, zr e7, zr e8, zr O1, zr V1, zr L1, zr I6, zr O7, zr V7, zr L7⟩
     | 3, ho =>
      cases zq ho
      have ev : a.tmps[8]?.getD undef = .int .i64 (k : Int) := by rw [ha]; kernel_rfl
      exact zx (.int .i64 (k : Int)) (by simp [execOp, ev, go_sem]) ⟨v7, v65, v66, v67, (.int .i64 (k : Int)), v69, v70, v71, v72, tv, tz, bp, sv, sz, by rw [ha]; kernel_rfl, hB, zl y7, zr e0, zr e1, zr e2, fun _ => rfl, zr e4, zr e5, zr e6, zr e7, zr e8, zr O1, zr V1, zr L1, zr I6, zr O7, zr V7, zr L7⟩
     | 4, ho =>
      cases zq ho
      have ev : a.tmps[67]?.getD undef = .string (strOfNums d) := by rw [ha, e2 (zd hd 2)]; kernel_rfl
      have ev' : a.tmps[68]?.getD undef = .int .i64 (k : Int) := by rw [ha, e3 (zd hd 3)]; kernel_rfl
      exact zx (.int .u8 ((x : Int) + 48)) (by simp [execOp, ev, ev', go_sem, hat, hkS]) ⟨v7, v65, v66, v67, v68, (.int .u8 ((x : Int) + 48)), v70, v71, v72, tv, tz, bp, sv, sz, by rw [ha]; kernel_rfl, hB, zl y7, zr e0, zr e1, zr e2, zr e3, fun _ => rfl, zr e5, zr e6, zr e7, zr e8, zr O1, zr V1, zr L1, zr I6, zr O7, zr V7, zr L7⟩
     | 5, ho =>
      cases zq ho
      have ev : a.tmps[69]?.getD undef = .int .u8 ((x : Int) + 48) := by rw [ha, e4 (zd hd 4)]; kernel_rfl
      exact zx (.int .u8 (x : Int)) (by simp [execOp, ev, go_sem, hx48]) ⟨v7, v65, v66, v67, v68, v69, (.int .u8 (x : Int)), v71, v72, tv, tz, bp, sv, sz, by rw [ha]; kernel_rfl, hB, zl y7, zr e0, zr e1, zr e2, zr e3, zr e4, fun _ => rfl, zr e6, zr e7, zr e8, zr O1, zr V1, zr L1, zr I6, zr O7, zr V7, zr L7⟩
     | 6, ho =>
      cases zq ho
      have ev : a.tmps[70]?.getD undef = .int .u8 (x : Int) := by rw [ha, e5 (zd hd 5)]; kernel_rfl
      refine Zba (w' := w'.alloc (.cells #[.int .u8 (x : Int)] 5)) (v := .slice (some ⟨w'.heap.size, 0, none⟩) 1 1) (by simp [execOp, ev, go_sem]) ?_
      exact ⟨v7, v65, v66, v67, v68, v69, v70, (.slice (some ⟨w'.heap.size, 0, none⟩) 1 1), v72, tv, tz, w'.heap.size, sv, sz, by rw [ha]; kernel_rfl, hB.alloc hB.size _, zl y7, zr e0, zr e1, zr e2, zr e3, zr e4, zr e5, fun _ => rfl, zr e7, zr e8, fun h => (O1 (h.resolve_left (by decide))).alloc _, zr V1, zr L1, fun _ => Zhe w' #[.int .u8 (x : Int)] [(x : Int)] 1 rfl (by decide) rfl (by simp; omega) (0, 0), fun h => (O7 (h.resolve_left (by decide))).alloc _, zr V7, zr L7⟩
     | 7, ho =>
      cases zq ho
      have ev : a.tmps[66]?.getD undef = tv := by rw [ha, e1 (zd hd 1)]; kernel_rfl
      have ev' : a.tmps[71]?.getD undef = .slice (some ⟨bp, 0, none⟩) 1 1 := by rw [ha, e6 (zd hd 6)]; kernel_rfl
      have hT := O1 (zd hd 1)
      have hV1 := V1 (zd hd 1)
      have hL1 := L1 (zd hd 1)
      have hI6 := I6 (zd hd 6)
      obtain ⟨ta, tc, rfl, hTI⟩ := hT.2
      refine Zan (f := 98) (args := #[.slice ta tz.length tc, .slice (some ⟨bp, 0, none⟩) 1 1]) (by simp [execOp, ev, ev', go_sem]) ?_
      refine (rsum_any hTI hI6 (by omega) (by omega)).mono ?_
      rintro e w6 ⟨nv, nz, rfl, nO, nV, nL, HB⟩
      refine ⟨_, rfl, ?_⟩
      exact ⟨v7, v65, v66, v67, v68, v69, v70, v71, (nv), _, tz, bp, nv, nz, by rw [ha]; kernel_rfl, Zaf hB zo HB, zl y7, zr e0, zr e1, zr e2, zr e3, zr e4, zr e5, zr e6, fun _ => rfl, za (fun h => hn (zc hcl 8 7 rfl h)), fun h => (O1 (h.resolve_left (by decide))).below HB, zr V1, zr L1, fun h => (I6 (h.resolve_left (by decide))).below HB, fun _ => nO.mono (Nat.le_trans hsW hB.size), fun _ => by rw [nV, hV1, hv.out, hvt.out, val8_one], fun _ => by omega⟩
     | 8, ho =>
      cases zq ho
      have ev : a.tmps[72]?.getD undef = sv := by rw [ha, e7 (zd hd 7)]; kernel_rfl
      exact zx (sv) (by simp [execOp, ev, go_sem]) ⟨(sv), v65, v66, v67, v68, v69, v70, v71, v72, tv, tz, bp, sv, sz, by rw [ha]; kernel_rfl, hB, .inl (.inl rfl), zr e0, zr e1, zr e2, zr e3, zr e4, zr e5, zr e6, zr e7, fun _ => rfl, zr O1, zr V1, zr L1, zr I6, zr O7, zr V7, zr L7⟩
     | i + 9, ho => simp at ho
    rintro D a w' ⟨v7, v65, v66, v67, v68, v69, v70, v71, v72, tv, tz, bp, sv, sz, ha, hB, y7, e0, e1, e2, e3, e4, e5, e6, e7, e8, O1, V1, L1, I6, O7, V7, L7⟩ hall
    obtain rfl := e8 (hall 8 (by decide))
    have oN := O7 (hall 7 (by decide))
    have vN := V7 (hall 7 (by decide))
    have lN := L7 (hall 7 (by decide))
    clear e0 e1 e2 e3 e4 e5 e6 e7 e8 O1 V1 L1 I6 O7 V7 L7 hall
    have hW2 := Zaf hW zo hB
    rw [ha]
    clear ha
    simp only [Act.put, List.setIfInBounds_toArray, List.set_cons_zero, List.set_cons_succ]
    go_wp2
    go_roundw
    case rel => exact ⟨k + 1, sz, by omega, by go_num, oN, vN, lN, hW2⟩
    case measure => simp [intOf]; omega
   obtain rfl : k = d.length := by omega
   have hltI : ¬ (d.length : Int) < (d.length : Int) := by omega
   have hv' := hv.out
   rw [List.take_length] at hv'
   have Hv : Hid (Zbv zs = Zb2 d) := hv'
   have t2 := (hW.block _ (lt_of_block z)).trans z
   have hcmp := hcm.out.1; have hcmp2 := hcm.out.2
   clear hv hv'
   go_wp2_with fail
   refine (fits_any N hI (by omega)).mono ?_
   rintro e w6 ⟨nv, rfl, nO, HB⟩
   rw [Hv.out] at nO ⊢
   rw [← e3.out] at nO
   rw [← e1.out, ← e2.out]
   obtain ⟨bb, Kb⟩ : ∃ bb, Hid (rdB ss = bb) := ⟨_, rfl⟩
   obtain ⟨ee, Ke⟩ : ∃ ee, Hid (rdE ss = ee) := ⟨_, rfl⟩
   obtain ⟨mm, Km⟩ : ∃ mm, Hid (rdM ss = mm) := ⟨_, rfl⟩
   rw [Km.out] at nO
   rw [Kb.out, Ke.out]
   obtain ⟨av, cv, rfl, _⟩ := nO.2
   replace t2 := (HB.block _ (lt_of_block t2)).trans t2
   have hB6 := Zaf (Zaf hB1 zo hW) zo HB
   clear e1 e2 e3 Hv
   obtain ⟨q0, q1, qf0, qf1⟩ := Zcf t2
   go_wp2
   exact bodyPost_ret (v := .tuple #[.agg #[.bool bb, .slice av mm.length cv], .int .i64 ee]) (by simp [results, Tryz.results74, go_sem, q0, q1]) rfl ⟨_, by rw [Kb.out, Ke.out], by rw [Km.out]; exact Zdp.put (base := w.heap.size + 1) (b := w.heap.size) (b0 := w.heap.size) (nO.mono (by omega)) (by omega) (by omega), Zbg (b := w.heap.size) hB6 (by omega)⟩
  have h4' : (400 : Int) < (ss.length : Int) := by omega
  obtain ⟨e1, e2, e3⟩ := rd_long (hok.out.trans hdg) h4
  go_wp2
  exact bodyPost_ret (v := .tuple #[.agg #[.bool false, .slice none 0 0], .int .i64 24]) (by simp [results, Tryz.results74, go_sem, q0, q1]) rfl ⟨.slice none 0 0, by rw [e1.out, e2.out], by rw [e3.out]; exact Zbq (n := 0) (World.ownsRow_nil _ _ _ _) (by simp), Zbg (b := w.heap.size) hB1 zo⟩
end Go.Proofs.YtncfmhlikmibaaaGreatDoor
