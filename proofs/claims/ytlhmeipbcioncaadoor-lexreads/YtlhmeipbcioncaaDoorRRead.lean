/- The document's Read. -/
import Derived.Test.YtlhmeipbcioncaaDoorRAdd
namespace Go.Proofs.YtlhmeipbcioncaaDoor
open Go.RowKit

theorem str_atS {S : ByteArray} (d : List Int) (hS : S = strOfNums d) (hb : ∀ x ∈ d, 0 ≤ x ∧ x < 256) (k : Nat) (hk : k < d.length) : ∀ hp : k < S.size, ((S[k]'hp).toNat : Int) = d.getD k 0 := by
  subst hS
  exact str_at d hb k hk
theorem bytes_at {d : List Int} (hb : ∀ x ∈ d, 0 ≤ x ∧ x < 256) (k : Nat) (hk : k < d.length) : 0 ≤ d.getD k 0 ∧ d.getD k 0 < 256 := hb (d.getD k 0) (by rw [show d.getD k 0 = d[k] by simp [hk]]; exact List.getElem_mem hk)
theorem rd_bad {ss : List Int} (h : rdOk ss = false) : Hid (rdB ss = false) ∧ Hid (rdE ss = 11) ∧ Hid (rdM ss = []) :=
  ⟨by show _ = _; unfold rdB; rw [h]; rfl, by show _ = _; unfold rdE; rw [h]; rfl, by show _ = _; unfold rdM; rw [h]; rfl⟩
theorem rd_long {ss : List Int} (h : rdOk ss = true) (h4 : ¬ ss.length ≤ 400) : Hid (rdB ss = false) ∧ Hid (rdE ss = 24) ∧ Hid (rdM ss = []) :=
  ⟨by show _ = _; unfold rdB; rw [if_pos h, if_neg h4], by show _ = _; unfold rdE; rw [if_pos h, if_neg h4], by show _ = _; unfold rdM; rw [if_pos h, if_neg h4]⟩
theorem rd_good {ss d : List Int} {nb : Bool} (h : rdOk ss = true) (h4 : ss.length ≤ 400) (hd : rdD ss = d) (hn : rdNeg ss = nb) : Hid (rdB ss = fitB nb (val10 d)) ∧ Hid (rdE ss = fitE (val10 d)) ∧ Hid (rdM ss = fitM (val10 d)) :=
  ⟨by show _ = _; unfold rdB; rw [if_pos h, if_pos h4, hd, hn], by show _ = _; unfold rdE; rw [if_pos h, if_pos h4, hd], by show _ = _; unfold rdM; rw [if_pos h, if_pos h4, hd]⟩
theorem drop_str (ss : List Int) : (strOfNums ss).extract 1 ss.length = strOfNums (ss.drop 1) := by
  cases ss with
  | nil => rfl
  | cons c r => exact str_tail c r
theorem val8_one (x : Nat) : val8 [(x : Int)] = x := by simp [val8]
theorem rdOk_of {ss d : List Int} (hD : rdD ss = d) (hne : d ≠ []) (h : (d.getD 0 0 == 48) = false ∨ ss.length = 1) : rdOk ss = digB d := by
  unfold rdOk
  rw [hD, decide_eq_true hne]
  rcases h with h | h
  · rw [h]; simp
  · rw [decide_eq_true h]; simp
theorem rdOk_no {ss d : List Int} (hD : rdD ss = d) (h : d = [] ∨ ((d.getD 0 0 == 48) = true ∧ ss.length ≠ 1)) : rdOk ss = false := by
  unfold rdOk
  rw [hD]
  rcases h with h | ⟨h, h1⟩
  · rw [h]; rfl
  · rw [h, decide_eq_false h1]; simp

set_option maxRecDepth 100000 in
set_option maxHeartbeats 16000000 in
theorem rread_any (ss : List Int) (w : World) (hb : ∀ x ∈ ss, 0 ≤ x ∧ x < 256) (hm : ss.length ≤ 9223372036854775807) :
    Calls Tryd.prog 42 #[.string (strOfNums ss)] w fun e w' => ∃ v, e = .returned (.tuple #[.agg #[.bool (rdB ss), v], .int .i64 (rdE ss)]) ∧ OwnB w' w.heap.size v (rdM ss) ∧ Below w.heap.size w w' := by
  have hB1 := box_below w (.cells #[.bool false, .slice none 0 0] 58)
  have z := heap_alloc_new w (.cells #[.bool false, .slice none 0 0] 58)
  have hs1 : (w.alloc (.cells #[.bool false, .slice none 0 0] 58)).heap.size = w.heap.size + 1 := by simp
  have hsz : (strOfNums ss).size = ss.length := strOfNums_size ss
  go_enter Tryd.func42, Tryd.ntmps42
  by_cases h0 : ss.length = 0
  · have h0' : ¬ (0 : Int) < (ss.length : Int) := by omega
    have hbad : rdOk ss = false := by rw [List.eq_nil_of_length_eq_zero h0]; rfl
    go_wp2
    generalize w.alloc (.cells #[.bool false, .slice none 0 0] 58) = w1 at *
    go_loop [6, 5] (fun i o => ∃ k : Nat, k ≤ ss.length ∧ i = .int .i64 k ∧ o = .bool false) (fun i _ => ss.length - (intOf i).toNat)
    case atStart => exact ⟨0, Nat.zero_le _, rfl, rfl⟩
    case round =>
      obtain ⟨k, hk, rfl, rfl⟩ := hrel
      by_cases hlt : k < ss.length
      · exact absurd hlt (by omega)
      · obtain rfl : k = ss.length := by omega
        have hltI : ¬ (ss.length : Int) < (ss.length : Int) := by omega
        obtain ⟨q0, q1, qf0, qf1⟩ := intVarT z
        obtain ⟨e1, e2, e3⟩ := rd_bad hbad
        go_wp2
        exact bodyPost_ret (v := .tuple #[.agg #[.bool false, .slice none 0 0], .int .i64 11]) (by simp [results, Tryd.results42, go_sem, q0, q1]) rfl ⟨.slice none 0 0, by rw [e1.out, e2.out], by rw [e3.out]; exact ownB_of (n := 0) (World.ownsRow_nil _ _ _ _) (by simp), below_put (b := w.heap.size) hB1 (Nat.le_refl _)⟩
  · have hp : (0 : Int) < (ss.length : Int) := by omega
    have hat0 := str_at ss hb 0 (by omega)
    have hc0 := bytes_at hb 0 (show 0 < ss.length by omega)
    by_cases h45 : ss.getD 0 0 = 45
    · rw [h45] at hat0
      have hN : rdNeg ss = true := by unfold rdNeg; rw [h45]; rfl
      obtain ⟨d, hd⟩ : ∃ d, ss.drop 1 = d := ⟨_, rfl⟩
      have hS := drop_str ss
      rw [hd] at hS
      have hdl : d.length + 1 = ss.length := by rw [← hd, List.length_drop]; omega
      have hD : rdD ss = d := by unfold rdD; rw [hN, if_pos rfl, hd]
      have hdb : ∀ x ∈ d, 0 ≤ x ∧ x < 256 := fun x hx => hb x (List.mem_of_mem_drop (by rw [hd]; exact hx))
      have hSs : (strOfNums d).size = d.length := strOfNums_size d
      by_cases hd0 : d.length = 0
      · have hd0' : ¬ (0 : Int) < (d.length : Int) := by omega
        have hbad : rdOk ss = false := rdOk_no hD (.inl (List.eq_nil_of_length_eq_zero hd0))
        clear hd h45 hD
        go_wp2
        generalize w.alloc (.cells #[.bool false, .slice none 0 0] 58) = w1 at *
        go_loop [6, 5] (fun i o => ∃ k : Nat, k ≤ d.length ∧ i = .int .i64 k ∧ o = .bool false) (fun i _ => d.length - (intOf i).toNat)
        case atStart => exact ⟨0, Nat.zero_le _, rfl, rfl⟩
        case round =>
          obtain ⟨k, hk, rfl, rfl⟩ := hrel
          by_cases hlt : k < d.length
          · exact absurd hlt (by omega)
          · obtain rfl : k = d.length := by omega
            have hltI : ¬ (d.length : Int) < (d.length : Int) := by omega
            obtain ⟨q0, q1, qf0, qf1⟩ := intVarT z
            obtain ⟨e1, e2, e3⟩ := rd_bad hbad
            go_wp2
            exact bodyPost_ret (v := .tuple #[.agg #[.bool false, .slice none 0 0], .int .i64 11]) (by simp [results, Tryd.results42, go_sem, q0, q1]) rfl ⟨.slice none 0 0, by rw [e1.out, e2.out], by rw [e3.out]; exact ownB_of (n := 0) (World.ownsRow_nil _ _ _ _) (by simp), below_put (b := w.heap.size) hB1 (Nat.le_refl _)⟩
      · have hdp : (0 : Int) < (d.length : Int) := by omega
        have hatd := str_at d hdb 0 (by omega)
        have hdc := bytes_at hdb 0 (show 0 < d.length by omega)
        have hne : d ≠ [] := fun e => hd0 (by rw [e]; rfl)
        by_cases h48 : d.getD 0 0 = 48
        · rw [h48] at hatd
          have hbad : rdOk ss = false := rdOk_no hD (.inr ⟨by rw [h48]; rfl, by omega⟩)
          have hl1 : ((ss.length : Int) == 1) = false := by simp; omega
          clear hd h45 hD h48
          go_wp2
          generalize w.alloc (.cells #[.bool false, .slice none 0 0] 58) = w1 at *
          go_loop [6, 5] (fun i o => ∃ k : Nat, k ≤ d.length ∧ i = .int .i64 k ∧ o = .bool false) (fun i _ => d.length - (intOf i).toNat)
          case atStart => exact ⟨0, Nat.zero_le _, rfl, rfl⟩
          case round =>
            obtain ⟨k, hk, rfl, rfl⟩ := hrel
            by_cases hlt : k < d.length
            · have hltI : (k : Int) < (d.length : Int) := by omega
              go_wp2
              go_round
              case rel => exact ⟨k + 1, by omega, by go_num, rfl⟩
              case measure => simp [intOf]; omega
            · obtain rfl : k = d.length := by omega
              have hltI : ¬ (d.length : Int) < (d.length : Int) := by omega
              obtain ⟨q0, q1, qf0, qf1⟩ := intVarT z
              obtain ⟨e1, e2, e3⟩ := rd_bad hbad
              go_wp2
              exact bodyPost_ret (v := .tuple #[.agg #[.bool false, .slice none 0 0], .int .i64 11]) (by simp [results, Tryd.results42, go_sem, q0, q1]) rfl ⟨.slice none 0 0, by rw [e1.out, e2.out], by rw [e3.out]; exact ownB_of (n := 0) (World.ownsRow_nil _ _ _ _) (by simp), below_put (b := w.heap.size) hB1 (Nat.le_refl _)⟩
        · have hok : Hid (rdOk ss = digB d) := rdOk_of hD hne (.inl (by simpa using h48))
          obtain ⟨d0, hd0e⟩ : ∃ x, d.getD 0 0 = x := ⟨_, rfl⟩
          rw [hd0e] at hatd hdc h48
          have h48b : (d0 == 48) = false := by simpa using h48
          clear hd h45 hd0e
          go_wp2
          generalize w.alloc (.cells #[.bool false, .slice none 0 0] 58) = w1 at *
          have Hdl : Hid (d.length + 1 = ss.length) := hdl
          have hdm : d.length ≤ 9223372036854775807 := by omega
          clear hatd hat0 h48 h48b hS hc0 hdc hdl hd0 hdp hp h0
          go_loop [6, 5] (fun i o => ∃ k : Nat, k ≤ d.length ∧ i = .int .i64 k ∧ o = .bool (digB (d.take k))) (fun i _ => d.length - (intOf i).toNat)
          case atStart => exact ⟨0, Nat.zero_le _, rfl, rfl⟩
          case round =>
            obtain ⟨k, hk, rfl, rfl⟩ := hrel
            by_cases hlt : k < d.length
            · have hltI : (k : Int) < (d.length : Int) := by omega
              have hat := str_at d hdb k hlt
              have hcb := bytes_at hdb k hlt
              have ht := digB_take d k hlt
              obtain ⟨c, hc⟩ : ∃ c, d.getD k 0 = c := ⟨_, rfl⟩
              rw [hc] at hat hcb ht
              have Ht : Hid (digB (d.take (k + 1)) = (digB (d.take k) && (decide (48 ≤ c) && decide (c ≤ 57)))) := ht
              clear ht hc
              obtain ⟨ob, Hob⟩ : ∃ b, Hid (digB (d.take k) = b) := ⟨_, rfl⟩
              rw [Hob.out]
              rw [Hob.out] at Ht
              cases ob with
              | false =>
                go_wp2
                go_round
                case rel => exact ⟨k + 1, by omega, by go_num, by rw [Ht.out]; rfl⟩
                case measure => simp [intOf]; omega
              | true =>
                by_cases h1 : 48 ≤ c
                · by_cases h2 : c ≤ 57
                  · go_wp2
                    go_round
                    case rel => exact ⟨k + 1, by omega, by go_num, by rw [Ht.out, decide_eq_true h1, decide_eq_true h2]; rfl⟩
                    case measure => simp [intOf]; omega
                  · have h2' : decide (c ≤ 57) = false := decide_eq_false h2
                    go_wp2
                    go_round
                    case rel => exact ⟨k + 1, by omega, by go_num, by rw [Ht.out, decide_eq_true h1, h2']; rfl⟩
                    case measure => simp [intOf]; omega
                · have h1' : decide (48 ≤ c) = false := decide_eq_false h1
                  go_wp2
                  go_round
                  case rel => exact ⟨k + 1, by omega, by go_num, by rw [Ht.out, h1']; rfl⟩
                  case measure => simp [intOf]; omega
            · obtain rfl : k = d.length := by omega
              have hltI : ¬ (d.length : Int) < (d.length : Int) := by omega
              rw [List.take_length]
              obtain ⟨q0, q1, qf0, qf1⟩ := intVarT z
              cases hdg : digB d with
              | false =>
                obtain ⟨e1, e2, e3⟩ := rd_bad (hok.out.trans hdg)
                go_wp2
                exact bodyPost_ret (v := .tuple #[.agg #[.bool false, .slice none 0 0], .int .i64 11]) (by simp [results, Tryd.results42, go_sem, q0, q1]) rfl ⟨.slice none 0 0, by rw [e1.out, e2.out], by rw [e3.out]; exact ownB_of (n := 0) (World.ownsRow_nil _ _ _ _) (by simp), below_put (b := w.heap.size) hB1 (Nat.le_refl _)⟩
              | true =>
                have hdd := (digB_iff d).1 hdg
                by_cases h4 : ss.length ≤ 400
                · have h4' : ¬ (400 : Int) < (ss.length : Int) := by omega
                  obtain ⟨e1, e2, e3⟩ := rd_good (hok.out.trans hdg) h4 hD hN
                  clear hdg hok q0 q1 qf0 qf1
                  have hd4 : d.length ≤ 400 := by have hq := Hdl.out; omega
                  go_wp2
                  go_loopw [8, 7] (fun i v wr => ∃ (k : Nat) (zs : List Int), k ≤ d.length ∧ i = .int .i64 k ∧ OwnB wr (w.heap.size + 1) v zs ∧ Hid (val8 zs = val10 (d.take k)) ∧ zs.length ≤ 2 * k ∧ Below w1.heap.size w1 wr) (fun i _ _ => d.length - (intOf i).toNat)
                  case atStart => exact ⟨0, [], Nat.zero_le _, rfl, ownB_of (n := 0) (World.ownsRow_nil _ _ _ _) (by simp), rfl, Nat.zero_le _, Below.refl _ _⟩
                  case round =>
                    obtain ⟨k, zs, hk, rfl, hO, hv, hzl, hW⟩ := hrel
                    obtain ⟨p, c, rfl, hI⟩ := hO.2
                    have hsW := Nat.le_trans (Nat.le_of_eq hs1.symm) hW.size
                    by_cases hlt : k < d.length
                    · have hltI : (k : Int) < (d.length : Int) := by omega
                      have hat := str_at d hdb k hlt
                      have hdg := hdd (d.getD k 0) (by rw [show d.getD k 0 = d[k] by simp [hlt]]; exact List.getElem_mem hlt)
                      have hvt0 := val10_take d k hlt
                      obtain ⟨x, hx, hx9⟩ : ∃ x : Nat, d.getD k 0 = (x : Int) + 48 ∧ x ≤ 9 := ⟨(d.getD k 0 - 48).toNat, by omega, by omega⟩
                      rw [hx] at hat hvt0
                      have hvt : Hid (val10 (d.take (k + 1)) = val10 (d.take k) * 10 + x) := by show _ = _; rw [hvt0, show ((x : Int) + 48 - 48).toNat = x by omega]
                      have hx48 : IntKind.u8.wrap (x : Int) = (x : Int) := by rw [IntKind.wrap_u8]; omega
                      have hkS : k < ((strOfNums d)).size := by omega
                      clear hvt0 hdg hx
                      go_wp2
                      refine wp_region_inv' (fun A D a w' => ∃ v7 v65 v66 v67 v68 v69 v70 v71 v72 tv tz bp sv sz, a = (((((((((A.put (some 7) v7).put (some 65) v65).put (some 66) v66).put (some 67) v67).put (some 68) v68).put (some 69) v69).put (some 70) v70).put (some 71) v71).put (some 72) v72) ∧ Below wr.heap.size wr w' ∧ (D 8 ∨ v7 = .slice p zs.length c) ∧ (D 0 → v65 = .slice p zs.length c) ∧ (D 1 → v66 = tv) ∧ (D 2 → v67 = .string (strOfNums d)) ∧ (D 3 → v68 = .int .i64 (k : Int)) ∧ (D 4 → v69 = .int .u8 ((x : Int) + 48)) ∧ (D 5 → v70 = .int .u8 (x : Int)) ∧ (D 6 → v71 = .slice (some ⟨bp, 0, none⟩) 1 1) ∧ (D 7 → v72 = sv) ∧ (D 8 → v7 = sv) ∧ (D 1 → OwnB w' (w.heap.size + 1) tv tz) ∧ (D 1 → val8 tz = val8 zs * 10) ∧ (D 1 → tz.length ≤ 2 * k + 1) ∧ (D 6 → IsB w' (some ⟨bp, 0, none⟩) 1 1 [(x : Int)]) ∧ (D 7 → OwnB w' (w.heap.size + 1) sv sz) ∧ (D 7 → val8 sz = val10 (d.take (k + 1))) ∧ (D 7 → sz.length ≤ 2 * (k + 1))) (by kernel_rfl) (by kernel_rfl) ?mono ?start ?step ?done
                      case mono =>
                        rintro D D' a w' hD ⟨v7, v65, v66, v67, v68, v69, v70, v71, v72, tv, tz, bp, sv, sz, ha, hB, y7, e0, e1, e2, e3, e4, e5, e6, e7, e8, O1, V1, L1, I6, O7, V7, L7⟩
                        exact ⟨v7, v65, v66, v67, v68, v69, v70, v71, v72, tv, tz, bp, sv, sz, ha, hB, y7.imp_left (hD 8).1, fun h => e0 ((hD 0).2 h), fun h => e1 ((hD 1).2 h), fun h => e2 ((hD 2).2 h), fun h => e3 ((hD 3).2 h), fun h => e4 ((hD 4).2 h), fun h => e5 ((hD 5).2 h), fun h => e6 ((hD 6).2 h), fun h => e7 ((hD 7).2 h), fun h => e8 ((hD 8).2 h), fun h => O1 ((hD 1).2 h), fun h => V1 ((hD 1).2 h), fun h => L1 ((hD 1).2 h), fun h => I6 ((hD 6).2 h), fun h => O7 ((hD 7).2 h), fun h => V7 ((hD 7).2 h), fun h => L7 ((hD 7).2 h)⟩
                      case start => exact ⟨(.slice p zs.length c), u65, u66, u67, u68, u69, u70, u71, u72, undef, [], 0, undef, [], by kernel_rfl, (Below.refl _ _).drew, .inr rfl, fun h => h.elim, fun h => h.elim, fun h => h.elim, fun h => h.elim, fun h => h.elim, fun h => h.elim, fun h => h.elim, fun h => h.elim, fun h => h.elim, fun h => h.elim, fun h => h.elim, fun h => h.elim, fun h => h.elim, fun h => h.elim, fun h => h.elim, fun h => h.elim⟩
                      case step =>
                        intro i o ho D a w' hI hn hcl hd
                        obtain ⟨v7, v65, v66, v67, v68, v69, v70, v71, v72, tv, tz, bp, sv, sz, ha, hB, y7, e0, e1, e2, e3, e4, e5, e6, e7, e8, O1, V1, L1, I6, O7, V7, L7⟩ := hI
                        match i, ho with
                        | 0, ho =>
                          cases Option.some.inj ho
                          have ev : a.tmps[7]?.getD undef = .slice p zs.length c := by rw [ha, y7.resolve_left (fun h => (fun h => (fun h => hn (hcl 1 _ rfl h ⟨0, .data⟩ (by simp) rfl)) (hcl 7 _ rfl h ⟨1, .data⟩ (by simp) rfl)) (hcl 8 _ rfl h ⟨7, .data⟩ (by simp) rfl))]; kernel_rfl
                          refine wp_value (w' := w') (v := .slice p zs.length c) (by simp [execOp, ev, go_sem]) ?_
                          exact ⟨v7, (.slice p zs.length c), v66, v67, v68, v69, v70, v71, v72, tv, tz, bp, sv, sz, by rw [ha]; kernel_rfl, hB, y7.imp_left .inr, fun _ => rfl, fun h => e1 (h.resolve_left (by decide)), fun h => e2 (h.resolve_left (by decide)), fun h => e3 (h.resolve_left (by decide)), fun h => e4 (h.resolve_left (by decide)), fun h => e5 (h.resolve_left (by decide)), fun h => e6 (h.resolve_left (by decide)), fun h => e7 (h.resolve_left (by decide)), fun h => e8 (h.resolve_left (by decide)), fun h => O1 (h.resolve_left (by decide)), fun h => V1 (h.resolve_left (by decide)), fun h => L1 (h.resolve_left (by decide)), fun h => I6 (h.resolve_left (by decide)), fun h => O7 (h.resolve_left (by decide)), fun h => V7 (h.resolve_left (by decide)), fun h => L7 (h.resolve_left (by decide))⟩
                        | 1, ho =>
                          cases Option.some.inj ho
                          have ev : a.tmps[65]?.getD undef = .slice p zs.length c := by rw [ha, e0 (hd ⟨0, .data⟩ (by simp) rfl)]; kernel_rfl
                          refine wp_enter (f := 56) (args := #[.slice p zs.length c, .int .i64 10, .int .i64 0]) (by simp [execOp, ev, go_sem]) ?_
                          refine (times_any 10 0 (hI.below hB) (by omega) (by decide) (by decide)).mono ?_
                          rintro e w6 ⟨nv, nz, rfl, nO, nV, nL, HB⟩
                          refine ⟨_, rfl, ?_⟩
                          exact ⟨v7, v65, (nv), v67, v68, v69, v70, v71, v72, nv, nz, bp, sv, sz, by rw [ha]; kernel_rfl, below_size hB (Nat.le_refl _) HB, y7.imp_left .inr, fun h => e0 (h.resolve_left (by decide)), fun _ => rfl, fun h => e2 (h.resolve_left (by decide)), fun h => e3 (h.resolve_left (by decide)), fun h => e4 (h.resolve_left (by decide)), fun h => e5 (h.resolve_left (by decide)), fun h => e6 (h.resolve_left (by decide)), fun h => e7 (h.resolve_left (by decide)), fun h => e8 (h.resolve_left (by decide)), fun _ => nO.mono (Nat.le_trans hsW hB.size), fun _ => by rw [nV]; simp, fun _ => by omega, fun h => (I6 (h.resolve_left (by decide))).below HB, fun h => (O7 (h.resolve_left (by decide))).below HB, fun h => V7 (h.resolve_left (by decide)), fun h => L7 (h.resolve_left (by decide))⟩
                        | 2, ho =>
                          cases Option.some.inj ho
                          have ev : a.tmps[4]?.getD undef = .string (strOfNums d) := by rw [ha]; kernel_rfl
                          refine wp_value (w' := w') (v := .string (strOfNums d)) (by simp [execOp, ev, go_sem]) ?_
                          exact ⟨v7, v65, v66, (.string (strOfNums d)), v68, v69, v70, v71, v72, tv, tz, bp, sv, sz, by rw [ha]; kernel_rfl, hB, y7.imp_left .inr, fun h => e0 (h.resolve_left (by decide)), fun h => e1 (h.resolve_left (by decide)), fun _ => rfl, fun h => e3 (h.resolve_left (by decide)), fun h => e4 (h.resolve_left (by decide)), fun h => e5 (h.resolve_left (by decide)), fun h => e6 (h.resolve_left (by decide)), fun h => e7 (h.resolve_left (by decide)), fun h => e8 (h.resolve_left (by decide)), fun h => O1 (h.resolve_left (by decide)), fun h => V1 (h.resolve_left (by decide)), fun h => L1 (h.resolve_left (by decide)), fun h => I6 (h.resolve_left (by decide)), fun h => O7 (h.resolve_left (by decide)), fun h => V7 (h.resolve_left (by decide)), fun h => L7 (h.resolve_left (by decide))⟩
                        | 3, ho =>
                          cases Option.some.inj ho
                          have ev : a.tmps[8]?.getD undef = .int .i64 (k : Int) := by rw [ha]; kernel_rfl
                          refine wp_value (w' := w') (v := .int .i64 (k : Int)) (by simp [execOp, ev, go_sem]) ?_
                          exact ⟨v7, v65, v66, v67, (.int .i64 (k : Int)), v69, v70, v71, v72, tv, tz, bp, sv, sz, by rw [ha]; kernel_rfl, hB, y7.imp_left .inr, fun h => e0 (h.resolve_left (by decide)), fun h => e1 (h.resolve_left (by decide)), fun h => e2 (h.resolve_left (by decide)), fun _ => rfl, fun h => e4 (h.resolve_left (by decide)), fun h => e5 (h.resolve_left (by decide)), fun h => e6 (h.resolve_left (by decide)), fun h => e7 (h.resolve_left (by decide)), fun h => e8 (h.resolve_left (by decide)), fun h => O1 (h.resolve_left (by decide)), fun h => V1 (h.resolve_left (by decide)), fun h => L1 (h.resolve_left (by decide)), fun h => I6 (h.resolve_left (by decide)), fun h => O7 (h.resolve_left (by decide)), fun h => V7 (h.resolve_left (by decide)), fun h => L7 (h.resolve_left (by decide))⟩
                        | 4, ho =>
                          cases Option.some.inj ho
                          have ev : a.tmps[67]?.getD undef = .string (strOfNums d) := by rw [ha, e2 (hd ⟨2, .data⟩ (by simp) rfl)]; kernel_rfl
                          have ev' : a.tmps[68]?.getD undef = .int .i64 (k : Int) := by rw [ha, e3 (hd ⟨3, .data⟩ (by simp) rfl)]; kernel_rfl
                          refine wp_value (w' := w') (v := .int .u8 ((x : Int) + 48)) (by simp [execOp, ev, ev', go_sem, hat, hkS]) ?_
                          exact ⟨v7, v65, v66, v67, v68, (.int .u8 ((x : Int) + 48)), v70, v71, v72, tv, tz, bp, sv, sz, by rw [ha]; kernel_rfl, hB, y7.imp_left .inr, fun h => e0 (h.resolve_left (by decide)), fun h => e1 (h.resolve_left (by decide)), fun h => e2 (h.resolve_left (by decide)), fun h => e3 (h.resolve_left (by decide)), fun _ => rfl, fun h => e5 (h.resolve_left (by decide)), fun h => e6 (h.resolve_left (by decide)), fun h => e7 (h.resolve_left (by decide)), fun h => e8 (h.resolve_left (by decide)), fun h => O1 (h.resolve_left (by decide)), fun h => V1 (h.resolve_left (by decide)), fun h => L1 (h.resolve_left (by decide)), fun h => I6 (h.resolve_left (by decide)), fun h => O7 (h.resolve_left (by decide)), fun h => V7 (h.resolve_left (by decide)), fun h => L7 (h.resolve_left (by decide))⟩
                        | 5, ho =>
                          cases Option.some.inj ho
                          have ev : a.tmps[69]?.getD undef = .int .u8 ((x : Int) + 48) := by rw [ha, e4 (hd ⟨4, .data⟩ (by simp) rfl)]; kernel_rfl
                          refine wp_value (w' := w') (v := .int .u8 (x : Int)) (by simp [execOp, ev, go_sem, hx48]) ?_
                          exact ⟨v7, v65, v66, v67, v68, v69, (.int .u8 (x : Int)), v71, v72, tv, tz, bp, sv, sz, by rw [ha]; kernel_rfl, hB, y7.imp_left .inr, fun h => e0 (h.resolve_left (by decide)), fun h => e1 (h.resolve_left (by decide)), fun h => e2 (h.resolve_left (by decide)), fun h => e3 (h.resolve_left (by decide)), fun h => e4 (h.resolve_left (by decide)), fun _ => rfl, fun h => e6 (h.resolve_left (by decide)), fun h => e7 (h.resolve_left (by decide)), fun h => e8 (h.resolve_left (by decide)), fun h => O1 (h.resolve_left (by decide)), fun h => V1 (h.resolve_left (by decide)), fun h => L1 (h.resolve_left (by decide)), fun h => I6 (h.resolve_left (by decide)), fun h => O7 (h.resolve_left (by decide)), fun h => V7 (h.resolve_left (by decide)), fun h => L7 (h.resolve_left (by decide))⟩
                        | 6, ho =>
                          cases Option.some.inj ho
                          have ev : a.tmps[70]?.getD undef = .int .u8 (x : Int) := by rw [ha, e5 (hd ⟨5, .data⟩ (by simp) rfl)]; kernel_rfl
                          refine wp_value (w' := w'.alloc (.cells #[.int .u8 (x : Int)] 5)) (v := .slice (some ⟨w'.heap.size, 0, none⟩) 1 1) (by simp [execOp, ev, go_sem]) ?_
                          exact ⟨v7, v65, v66, v67, v68, v69, v70, (.slice (some ⟨w'.heap.size, 0, none⟩) 1 1), v72, tv, tz, w'.heap.size, sv, sz, by rw [ha]; kernel_rfl, hB.alloc hB.size _, y7.imp_left .inr, fun h => e0 (h.resolve_left (by decide)), fun h => e1 (h.resolve_left (by decide)), fun h => e2 (h.resolve_left (by decide)), fun h => e3 (h.resolve_left (by decide)), fun h => e4 (h.resolve_left (by decide)), fun h => e5 (h.resolve_left (by decide)), fun _ => rfl, fun h => e7 (h.resolve_left (by decide)), fun h => e8 (h.resolve_left (by decide)), fun h => (O1 (h.resolve_left (by decide))).alloc _, fun h => V1 (h.resolve_left (by decide)), fun h => L1 (h.resolve_left (by decide)), fun _ => isB_lit w' #[.int .u8 (x : Int)] [(x : Int)] 1 rfl (by decide) rfl (by simp; omega) (0, 0), fun h => (O7 (h.resolve_left (by decide))).alloc _, fun h => V7 (h.resolve_left (by decide)), fun h => L7 (h.resolve_left (by decide))⟩
                        | 7, ho =>
                          cases Option.some.inj ho
                          have ev : a.tmps[66]?.getD undef = tv := by rw [ha, e1 (hd ⟨1, .data⟩ (by simp) rfl)]; kernel_rfl
                          have ev' : a.tmps[71]?.getD undef = .slice (some ⟨bp, 0, none⟩) 1 1 := by rw [ha, e6 (hd ⟨6, .data⟩ (by simp) rfl)]; kernel_rfl
                          have hT := O1 (hd ⟨1, .data⟩ (by simp) rfl)
                          have hV1 := V1 (hd ⟨1, .data⟩ (by simp) rfl)
                          have hL1 := L1 (hd ⟨1, .data⟩ (by simp) rfl)
                          have hI6 := I6 (hd ⟨6, .data⟩ (by simp) rfl)
                          obtain ⟨ta, tc, rfl, hTI⟩ := hT.2
                          refine wp_enter (f := 55) (args := #[.slice ta tz.length tc, .slice (some ⟨bp, 0, none⟩) 1 1]) (by simp [execOp, ev, ev', go_sem]) ?_
                          refine (rsum_any hTI hI6 (by omega) (by omega)).mono ?_
                          rintro e w6 ⟨nv, nz, rfl, nO, nV, nL, HB⟩
                          refine ⟨_, rfl, ?_⟩
                          exact ⟨v7, v65, v66, v67, v68, v69, v70, v71, (nv), _, tz, bp, nv, nz, by rw [ha]; kernel_rfl, below_size hB (Nat.le_refl _) HB, y7.imp_left .inr, fun h => e0 (h.resolve_left (by decide)), fun h => e1 (h.resolve_left (by decide)), fun h => e2 (h.resolve_left (by decide)), fun h => e3 (h.resolve_left (by decide)), fun h => e4 (h.resolve_left (by decide)), fun h => e5 (h.resolve_left (by decide)), fun h => e6 (h.resolve_left (by decide)), fun _ => rfl, fun h => absurd (h.resolve_left (by decide)) (fun h => hn (hcl 8 _ rfl h ⟨7, .data⟩ (by simp) rfl)), fun h => (O1 (h.resolve_left (by decide))).below HB, fun h => V1 (h.resolve_left (by decide)), fun h => L1 (h.resolve_left (by decide)), fun h => (I6 (h.resolve_left (by decide))).below HB, fun _ => nO.mono (Nat.le_trans hsW hB.size), fun _ => by rw [nV, hV1, hv.out, hvt.out, val8_one], fun _ => by omega⟩
                        | 8, ho =>
                          cases Option.some.inj ho
                          have ev : a.tmps[72]?.getD undef = sv := by rw [ha, e7 (hd ⟨7, .data⟩ (by simp) rfl)]; kernel_rfl
                          refine wp_value (w' := w') (v := sv) (by simp [execOp, ev, go_sem]) ?_
                          exact ⟨(sv), v65, v66, v67, v68, v69, v70, v71, v72, tv, tz, bp, sv, sz, by rw [ha]; kernel_rfl, hB, .inl (.inl rfl), fun h => e0 (h.resolve_left (by decide)), fun h => e1 (h.resolve_left (by decide)), fun h => e2 (h.resolve_left (by decide)), fun h => e3 (h.resolve_left (by decide)), fun h => e4 (h.resolve_left (by decide)), fun h => e5 (h.resolve_left (by decide)), fun h => e6 (h.resolve_left (by decide)), fun h => e7 (h.resolve_left (by decide)), fun _ => rfl, fun h => O1 (h.resolve_left (by decide)), fun h => V1 (h.resolve_left (by decide)), fun h => L1 (h.resolve_left (by decide)), fun h => I6 (h.resolve_left (by decide)), fun h => O7 (h.resolve_left (by decide)), fun h => V7 (h.resolve_left (by decide)), fun h => L7 (h.resolve_left (by decide))⟩
                        | i + 9, ho => simp at ho
                      case done =>
                        rintro D a w' ⟨v7, v65, v66, v67, v68, v69, v70, v71, v72, tv, tz, bp, sv, sz, ha, hB, y7, e0, e1, e2, e3, e4, e5, e6, e7, e8, O1, V1, L1, I6, O7, V7, L7⟩ hall
                        obtain rfl := e8 (hall 8 (by decide))
                        have oN := O7 (hall 7 (by decide))
                        have vN := V7 (hall 7 (by decide))
                        have lN := L7 (hall 7 (by decide))
                        clear e0 e1 e2 e3 e4 e5 e6 e7 e8 O1 V1 L1 I6 O7 V7 L7 hall
                        have hW2 := below_size hW (Nat.le_refl _) hB
                        rw [ha]
                        clear ha
                        simp only [Act.put, List.setIfInBounds_toArray, List.set_cons_zero, List.set_cons_succ]
                        go_wp2
                        go_roundw
                        case rel => exact ⟨k + 1, sz, by omega, by go_num, oN, vN, lN, hW2⟩
                        case measure => simp [intOf]; omega
                    · obtain rfl : k = d.length := by omega
                      have hltI : ¬ (d.length : Int) < (d.length : Int) := by omega
                      have hv' := hv.out
                      rw [List.take_length] at hv'
                      have Hv : Hid (val8 zs = val10 d) := hv'
                      have t2 := (hW.block _ (lt_of_block z)).trans z
                      have hcmp : (d.length : Int) < (ss.length : Int) := by have hq := Hdl.out; omega
                      clear hv hv'
                      go_wp2_with fail
                      refine (fits_any true hI (by omega)).mono ?_
                      rintro e w6 ⟨nv, rfl, nO, HB⟩
                      rw [Hv.out] at nO ⊢
                      rw [← e3.out] at nO
                      rw [← e1.out, ← e2.out]
                      obtain ⟨bb, Kb⟩ : ∃ bb, Hid (rdB ss = bb) := ⟨_, rfl⟩
                      obtain ⟨ee, Ke⟩ : ∃ ee, Hid (rdE ss = ee) := ⟨_, rfl⟩
                      obtain ⟨mm, Km⟩ : ∃ mm, Hid (rdM ss = mm) := ⟨_, rfl⟩
                      rw [Km.out] at nO
                      rw [Kb.out, Ke.out]
                      obtain ⟨av, cv, rfl, _⟩ := nO.2
                      replace t2 := (HB.block _ (lt_of_block t2)).trans t2
                      have hB6 := below_size (below_size hB1 (Nat.le_refl _) hW) (Nat.le_refl _) HB
                      clear e1 e2 e3 Hv
                      obtain ⟨q0, q1, qf0, qf1⟩ := intVarT t2
                      go_wp2
                      exact bodyPost_ret (v := .tuple #[.agg #[.bool bb, .slice av mm.length cv], .int .i64 ee]) (by simp [results, Tryd.results42, go_sem, q0, q1]) rfl ⟨_, by rw [Kb.out, Ke.out], by rw [Km.out]; exact OwnB.put (base := w.heap.size + 1) (b := w.heap.size) (b0 := w.heap.size) (nO.mono (by omega)) (by omega) (by omega), below_put (b := w.heap.size) hB6 (by omega)⟩
                · have h4' : (400 : Int) < (ss.length : Int) := by omega
                  obtain ⟨e1, e2, e3⟩ := rd_long (hok.out.trans hdg) h4
                  go_wp2
                  exact bodyPost_ret (v := .tuple #[.agg #[.bool false, .slice none 0 0], .int .i64 24]) (by simp [results, Tryd.results42, go_sem, q0, q1]) rfl ⟨.slice none 0 0, by rw [e1.out, e2.out], by rw [e3.out]; exact ownB_of (n := 0) (World.ownsRow_nil _ _ _ _) (by simp), below_put (b := w.heap.size) hB1 (Nat.le_refl _)⟩
    · have hN : rdNeg ss = false := by unfold rdNeg; simpa using h45
      have hD : rdD ss = ss := by unfold rdD; rw [hN]; rfl
      have hdb := hb
      have hdl := hsz
      have hne : ss ≠ [] := fun e => h0 (by rw [e]; rfl)
      by_cases h48 : ss.getD 0 0 = 48
      · rw [h48] at hat0
        by_cases hl1 : ss.length = 1
        · have hok : Hid (rdOk ss = digB ss) := rdOk_of hD hne (.inr hl1)
          have hl1' : ((ss.length : Int) == 1) = true := by simp; omega
          clear h45 h48
          go_wp2
          generalize w.alloc (.cells #[.bool false, .slice none 0 0] 58) = w1 at *
          clear hat0
          go_loop [6, 5] (fun i o => ∃ k : Nat, k ≤ ss.length ∧ i = .int .i64 k ∧ o = .bool (digB (ss.take k))) (fun i _ => ss.length - (intOf i).toNat)
          case atStart => exact ⟨0, Nat.zero_le _, rfl, rfl⟩
          case round =>
            obtain ⟨k, hk, rfl, rfl⟩ := hrel
            by_cases hlt : k < ss.length
            · have hltI : (k : Int) < (ss.length : Int) := by omega
              have hat := str_at ss hdb k hlt
              have hcb := bytes_at hdb k hlt
              have ht := digB_take ss k hlt
              obtain ⟨c, hc⟩ : ∃ c, ss.getD k 0 = c := ⟨_, rfl⟩
              rw [hc] at hat hcb ht
              have Ht : Hid (digB (ss.take (k + 1)) = (digB (ss.take k) && (decide (48 ≤ c) && decide (c ≤ 57)))) := ht
              clear ht hc
              obtain ⟨ob, Hob⟩ : ∃ b, Hid (digB (ss.take k) = b) := ⟨_, rfl⟩
              rw [Hob.out]
              rw [Hob.out] at Ht
              cases ob with
              | false =>
                go_wp2
                go_round
                case rel => exact ⟨k + 1, by omega, by go_num, by rw [Ht.out]; rfl⟩
                case measure => simp [intOf]; omega
              | true =>
                by_cases h1 : 48 ≤ c
                · by_cases h2 : c ≤ 57
                  · go_wp2
                    go_round
                    case rel => exact ⟨k + 1, by omega, by go_num, by rw [Ht.out, decide_eq_true h1, decide_eq_true h2]; rfl⟩
                    case measure => simp [intOf]; omega
                  · have h2' : decide (c ≤ 57) = false := decide_eq_false h2
                    go_wp2
                    go_round
                    case rel => exact ⟨k + 1, by omega, by go_num, by rw [Ht.out, decide_eq_true h1, h2']; rfl⟩
                    case measure => simp [intOf]; omega
                · have h1' : decide (48 ≤ c) = false := decide_eq_false h1
                  go_wp2
                  go_round
                  case rel => exact ⟨k + 1, by omega, by go_num, by rw [Ht.out, h1']; rfl⟩
                  case measure => simp [intOf]; omega
            · obtain rfl : k = ss.length := by omega
              have hltI : ¬ (ss.length : Int) < (ss.length : Int) := by omega
              rw [List.take_length]
              obtain ⟨q0, q1, qf0, qf1⟩ := intVarT z
              cases hdg : digB ss with
              | false =>
                obtain ⟨e1, e2, e3⟩ := rd_bad (hok.out.trans hdg)
                go_wp2
                exact bodyPost_ret (v := .tuple #[.agg #[.bool false, .slice none 0 0], .int .i64 11]) (by simp [results, Tryd.results42, go_sem, q0, q1]) rfl ⟨.slice none 0 0, by rw [e1.out, e2.out], by rw [e3.out]; exact ownB_of (n := 0) (World.ownsRow_nil _ _ _ _) (by simp), below_put (b := w.heap.size) hB1 (Nat.le_refl _)⟩
              | true =>
                have hdd := (digB_iff ss).1 hdg
                by_cases h4 : ss.length ≤ 400
                · have h4' : ¬ (400 : Int) < (ss.length : Int) := by omega
                  obtain ⟨e1, e2, e3⟩ := rd_good (hok.out.trans hdg) h4 hD hN
                  clear hdg hok q0 q1 qf0 qf1
                  have hd4 : ss.length ≤ 400 := by omega
                  go_wp2
                  go_loopw [8, 7] (fun i v wr => ∃ (k : Nat) (zs : List Int), k ≤ ss.length ∧ i = .int .i64 k ∧ OwnB wr (w.heap.size + 1) v zs ∧ Hid (val8 zs = val10 (ss.take k)) ∧ zs.length ≤ 2 * k ∧ Below w1.heap.size w1 wr) (fun i _ _ => ss.length - (intOf i).toNat)
                  case atStart => exact ⟨0, [], Nat.zero_le _, rfl, ownB_of (n := 0) (World.ownsRow_nil _ _ _ _) (by simp), rfl, Nat.zero_le _, Below.refl _ _⟩
                  case round =>
                    obtain ⟨k, zs, hk, rfl, hO, hv, hzl, hW⟩ := hrel
                    obtain ⟨p, c, rfl, hI⟩ := hO.2
                    have hsW := Nat.le_trans (Nat.le_of_eq hs1.symm) hW.size
                    by_cases hlt : k < ss.length
                    · have hltI : (k : Int) < (ss.length : Int) := by omega
                      have hat := str_at ss hdb k hlt
                      have hdg := hdd (ss.getD k 0) (by rw [show ss.getD k 0 = ss[k] by simp [hlt]]; exact List.getElem_mem hlt)
                      have hvt0 := val10_take ss k hlt
                      obtain ⟨x, hx, hx9⟩ : ∃ x : Nat, ss.getD k 0 = (x : Int) + 48 ∧ x ≤ 9 := ⟨(ss.getD k 0 - 48).toNat, by omega, by omega⟩
                      rw [hx] at hat hvt0
                      have hvt : Hid (val10 (ss.take (k + 1)) = val10 (ss.take k) * 10 + x) := by show _ = _; rw [hvt0, show ((x : Int) + 48 - 48).toNat = x by omega]
                      have hx48 : IntKind.u8.wrap (x : Int) = (x : Int) := by rw [IntKind.wrap_u8]; omega
                      have hkS : k < ((strOfNums ss)).size := by omega
                      clear hvt0 hdg hx
                      go_wp2
                      refine wp_region_inv' (fun A D a w' => ∃ v7 v65 v66 v67 v68 v69 v70 v71 v72 tv tz bp sv sz, a = (((((((((A.put (some 7) v7).put (some 65) v65).put (some 66) v66).put (some 67) v67).put (some 68) v68).put (some 69) v69).put (some 70) v70).put (some 71) v71).put (some 72) v72) ∧ Below wr.heap.size wr w' ∧ (D 8 ∨ v7 = .slice p zs.length c) ∧ (D 0 → v65 = .slice p zs.length c) ∧ (D 1 → v66 = tv) ∧ (D 2 → v67 = .string (strOfNums ss)) ∧ (D 3 → v68 = .int .i64 (k : Int)) ∧ (D 4 → v69 = .int .u8 ((x : Int) + 48)) ∧ (D 5 → v70 = .int .u8 (x : Int)) ∧ (D 6 → v71 = .slice (some ⟨bp, 0, none⟩) 1 1) ∧ (D 7 → v72 = sv) ∧ (D 8 → v7 = sv) ∧ (D 1 → OwnB w' (w.heap.size + 1) tv tz) ∧ (D 1 → val8 tz = val8 zs * 10) ∧ (D 1 → tz.length ≤ 2 * k + 1) ∧ (D 6 → IsB w' (some ⟨bp, 0, none⟩) 1 1 [(x : Int)]) ∧ (D 7 → OwnB w' (w.heap.size + 1) sv sz) ∧ (D 7 → val8 sz = val10 (ss.take (k + 1))) ∧ (D 7 → sz.length ≤ 2 * (k + 1))) (by kernel_rfl) (by kernel_rfl) ?mono ?start ?step ?done
                      case mono =>
                        rintro D D' a w' hD ⟨v7, v65, v66, v67, v68, v69, v70, v71, v72, tv, tz, bp, sv, sz, ha, hB, y7, e0, e1, e2, e3, e4, e5, e6, e7, e8, O1, V1, L1, I6, O7, V7, L7⟩
                        exact ⟨v7, v65, v66, v67, v68, v69, v70, v71, v72, tv, tz, bp, sv, sz, ha, hB, y7.imp_left (hD 8).1, fun h => e0 ((hD 0).2 h), fun h => e1 ((hD 1).2 h), fun h => e2 ((hD 2).2 h), fun h => e3 ((hD 3).2 h), fun h => e4 ((hD 4).2 h), fun h => e5 ((hD 5).2 h), fun h => e6 ((hD 6).2 h), fun h => e7 ((hD 7).2 h), fun h => e8 ((hD 8).2 h), fun h => O1 ((hD 1).2 h), fun h => V1 ((hD 1).2 h), fun h => L1 ((hD 1).2 h), fun h => I6 ((hD 6).2 h), fun h => O7 ((hD 7).2 h), fun h => V7 ((hD 7).2 h), fun h => L7 ((hD 7).2 h)⟩
                      case start => exact ⟨(.slice p zs.length c), u65, u66, u67, u68, u69, u70, u71, u72, undef, [], 0, undef, [], by kernel_rfl, (Below.refl _ _).drew, .inr rfl, fun h => h.elim, fun h => h.elim, fun h => h.elim, fun h => h.elim, fun h => h.elim, fun h => h.elim, fun h => h.elim, fun h => h.elim, fun h => h.elim, fun h => h.elim, fun h => h.elim, fun h => h.elim, fun h => h.elim, fun h => h.elim, fun h => h.elim, fun h => h.elim⟩
                      case step =>
                        intro i o ho D a w' hI hn hcl hd
                        obtain ⟨v7, v65, v66, v67, v68, v69, v70, v71, v72, tv, tz, bp, sv, sz, ha, hB, y7, e0, e1, e2, e3, e4, e5, e6, e7, e8, O1, V1, L1, I6, O7, V7, L7⟩ := hI
                        match i, ho with
                        | 0, ho =>
                          cases Option.some.inj ho
                          have ev : a.tmps[7]?.getD undef = .slice p zs.length c := by rw [ha, y7.resolve_left (fun h => (fun h => (fun h => hn (hcl 1 _ rfl h ⟨0, .data⟩ (by simp) rfl)) (hcl 7 _ rfl h ⟨1, .data⟩ (by simp) rfl)) (hcl 8 _ rfl h ⟨7, .data⟩ (by simp) rfl))]; kernel_rfl
                          refine wp_value (w' := w') (v := .slice p zs.length c) (by simp [execOp, ev, go_sem]) ?_
                          exact ⟨v7, (.slice p zs.length c), v66, v67, v68, v69, v70, v71, v72, tv, tz, bp, sv, sz, by rw [ha]; kernel_rfl, hB, y7.imp_left .inr, fun _ => rfl, fun h => e1 (h.resolve_left (by decide)), fun h => e2 (h.resolve_left (by decide)), fun h => e3 (h.resolve_left (by decide)), fun h => e4 (h.resolve_left (by decide)), fun h => e5 (h.resolve_left (by decide)), fun h => e6 (h.resolve_left (by decide)), fun h => e7 (h.resolve_left (by decide)), fun h => e8 (h.resolve_left (by decide)), fun h => O1 (h.resolve_left (by decide)), fun h => V1 (h.resolve_left (by decide)), fun h => L1 (h.resolve_left (by decide)), fun h => I6 (h.resolve_left (by decide)), fun h => O7 (h.resolve_left (by decide)), fun h => V7 (h.resolve_left (by decide)), fun h => L7 (h.resolve_left (by decide))⟩
                        | 1, ho =>
                          cases Option.some.inj ho
                          have ev : a.tmps[65]?.getD undef = .slice p zs.length c := by rw [ha, e0 (hd ⟨0, .data⟩ (by simp) rfl)]; kernel_rfl
                          refine wp_enter (f := 56) (args := #[.slice p zs.length c, .int .i64 10, .int .i64 0]) (by simp [execOp, ev, go_sem]) ?_
                          refine (times_any 10 0 (hI.below hB) (by omega) (by decide) (by decide)).mono ?_
                          rintro e w6 ⟨nv, nz, rfl, nO, nV, nL, HB⟩
                          refine ⟨_, rfl, ?_⟩
                          exact ⟨v7, v65, (nv), v67, v68, v69, v70, v71, v72, nv, nz, bp, sv, sz, by rw [ha]; kernel_rfl, below_size hB (Nat.le_refl _) HB, y7.imp_left .inr, fun h => e0 (h.resolve_left (by decide)), fun _ => rfl, fun h => e2 (h.resolve_left (by decide)), fun h => e3 (h.resolve_left (by decide)), fun h => e4 (h.resolve_left (by decide)), fun h => e5 (h.resolve_left (by decide)), fun h => e6 (h.resolve_left (by decide)), fun h => e7 (h.resolve_left (by decide)), fun h => e8 (h.resolve_left (by decide)), fun _ => nO.mono (Nat.le_trans hsW hB.size), fun _ => by rw [nV]; simp, fun _ => by omega, fun h => (I6 (h.resolve_left (by decide))).below HB, fun h => (O7 (h.resolve_left (by decide))).below HB, fun h => V7 (h.resolve_left (by decide)), fun h => L7 (h.resolve_left (by decide))⟩
                        | 2, ho =>
                          cases Option.some.inj ho
                          have ev : a.tmps[4]?.getD undef = .string (strOfNums ss) := by rw [ha]; kernel_rfl
                          refine wp_value (w' := w') (v := .string (strOfNums ss)) (by simp [execOp, ev, go_sem]) ?_
                          exact ⟨v7, v65, v66, (.string (strOfNums ss)), v68, v69, v70, v71, v72, tv, tz, bp, sv, sz, by rw [ha]; kernel_rfl, hB, y7.imp_left .inr, fun h => e0 (h.resolve_left (by decide)), fun h => e1 (h.resolve_left (by decide)), fun _ => rfl, fun h => e3 (h.resolve_left (by decide)), fun h => e4 (h.resolve_left (by decide)), fun h => e5 (h.resolve_left (by decide)), fun h => e6 (h.resolve_left (by decide)), fun h => e7 (h.resolve_left (by decide)), fun h => e8 (h.resolve_left (by decide)), fun h => O1 (h.resolve_left (by decide)), fun h => V1 (h.resolve_left (by decide)), fun h => L1 (h.resolve_left (by decide)), fun h => I6 (h.resolve_left (by decide)), fun h => O7 (h.resolve_left (by decide)), fun h => V7 (h.resolve_left (by decide)), fun h => L7 (h.resolve_left (by decide))⟩
                        | 3, ho =>
                          cases Option.some.inj ho
                          have ev : a.tmps[8]?.getD undef = .int .i64 (k : Int) := by rw [ha]; kernel_rfl
                          refine wp_value (w' := w') (v := .int .i64 (k : Int)) (by simp [execOp, ev, go_sem]) ?_
                          exact ⟨v7, v65, v66, v67, (.int .i64 (k : Int)), v69, v70, v71, v72, tv, tz, bp, sv, sz, by rw [ha]; kernel_rfl, hB, y7.imp_left .inr, fun h => e0 (h.resolve_left (by decide)), fun h => e1 (h.resolve_left (by decide)), fun h => e2 (h.resolve_left (by decide)), fun _ => rfl, fun h => e4 (h.resolve_left (by decide)), fun h => e5 (h.resolve_left (by decide)), fun h => e6 (h.resolve_left (by decide)), fun h => e7 (h.resolve_left (by decide)), fun h => e8 (h.resolve_left (by decide)), fun h => O1 (h.resolve_left (by decide)), fun h => V1 (h.resolve_left (by decide)), fun h => L1 (h.resolve_left (by decide)), fun h => I6 (h.resolve_left (by decide)), fun h => O7 (h.resolve_left (by decide)), fun h => V7 (h.resolve_left (by decide)), fun h => L7 (h.resolve_left (by decide))⟩
                        | 4, ho =>
                          cases Option.some.inj ho
                          have ev : a.tmps[67]?.getD undef = .string (strOfNums ss) := by rw [ha, e2 (hd ⟨2, .data⟩ (by simp) rfl)]; kernel_rfl
                          have ev' : a.tmps[68]?.getD undef = .int .i64 (k : Int) := by rw [ha, e3 (hd ⟨3, .data⟩ (by simp) rfl)]; kernel_rfl
                          refine wp_value (w' := w') (v := .int .u8 ((x : Int) + 48)) (by simp [execOp, ev, ev', go_sem, hat, hkS]) ?_
                          exact ⟨v7, v65, v66, v67, v68, (.int .u8 ((x : Int) + 48)), v70, v71, v72, tv, tz, bp, sv, sz, by rw [ha]; kernel_rfl, hB, y7.imp_left .inr, fun h => e0 (h.resolve_left (by decide)), fun h => e1 (h.resolve_left (by decide)), fun h => e2 (h.resolve_left (by decide)), fun h => e3 (h.resolve_left (by decide)), fun _ => rfl, fun h => e5 (h.resolve_left (by decide)), fun h => e6 (h.resolve_left (by decide)), fun h => e7 (h.resolve_left (by decide)), fun h => e8 (h.resolve_left (by decide)), fun h => O1 (h.resolve_left (by decide)), fun h => V1 (h.resolve_left (by decide)), fun h => L1 (h.resolve_left (by decide)), fun h => I6 (h.resolve_left (by decide)), fun h => O7 (h.resolve_left (by decide)), fun h => V7 (h.resolve_left (by decide)), fun h => L7 (h.resolve_left (by decide))⟩
                        | 5, ho =>
                          cases Option.some.inj ho
                          have ev : a.tmps[69]?.getD undef = .int .u8 ((x : Int) + 48) := by rw [ha, e4 (hd ⟨4, .data⟩ (by simp) rfl)]; kernel_rfl
                          refine wp_value (w' := w') (v := .int .u8 (x : Int)) (by simp [execOp, ev, go_sem, hx48]) ?_
                          exact ⟨v7, v65, v66, v67, v68, v69, (.int .u8 (x : Int)), v71, v72, tv, tz, bp, sv, sz, by rw [ha]; kernel_rfl, hB, y7.imp_left .inr, fun h => e0 (h.resolve_left (by decide)), fun h => e1 (h.resolve_left (by decide)), fun h => e2 (h.resolve_left (by decide)), fun h => e3 (h.resolve_left (by decide)), fun h => e4 (h.resolve_left (by decide)), fun _ => rfl, fun h => e6 (h.resolve_left (by decide)), fun h => e7 (h.resolve_left (by decide)), fun h => e8 (h.resolve_left (by decide)), fun h => O1 (h.resolve_left (by decide)), fun h => V1 (h.resolve_left (by decide)), fun h => L1 (h.resolve_left (by decide)), fun h => I6 (h.resolve_left (by decide)), fun h => O7 (h.resolve_left (by decide)), fun h => V7 (h.resolve_left (by decide)), fun h => L7 (h.resolve_left (by decide))⟩
                        | 6, ho =>
                          cases Option.some.inj ho
                          have ev : a.tmps[70]?.getD undef = .int .u8 (x : Int) := by rw [ha, e5 (hd ⟨5, .data⟩ (by simp) rfl)]; kernel_rfl
                          refine wp_value (w' := w'.alloc (.cells #[.int .u8 (x : Int)] 5)) (v := .slice (some ⟨w'.heap.size, 0, none⟩) 1 1) (by simp [execOp, ev, go_sem]) ?_
                          exact ⟨v7, v65, v66, v67, v68, v69, v70, (.slice (some ⟨w'.heap.size, 0, none⟩) 1 1), v72, tv, tz, w'.heap.size, sv, sz, by rw [ha]; kernel_rfl, hB.alloc hB.size _, y7.imp_left .inr, fun h => e0 (h.resolve_left (by decide)), fun h => e1 (h.resolve_left (by decide)), fun h => e2 (h.resolve_left (by decide)), fun h => e3 (h.resolve_left (by decide)), fun h => e4 (h.resolve_left (by decide)), fun h => e5 (h.resolve_left (by decide)), fun _ => rfl, fun h => e7 (h.resolve_left (by decide)), fun h => e8 (h.resolve_left (by decide)), fun h => (O1 (h.resolve_left (by decide))).alloc _, fun h => V1 (h.resolve_left (by decide)), fun h => L1 (h.resolve_left (by decide)), fun _ => isB_lit w' #[.int .u8 (x : Int)] [(x : Int)] 1 rfl (by decide) rfl (by simp; omega) (0, 0), fun h => (O7 (h.resolve_left (by decide))).alloc _, fun h => V7 (h.resolve_left (by decide)), fun h => L7 (h.resolve_left (by decide))⟩
                        | 7, ho =>
                          cases Option.some.inj ho
                          have ev : a.tmps[66]?.getD undef = tv := by rw [ha, e1 (hd ⟨1, .data⟩ (by simp) rfl)]; kernel_rfl
                          have ev' : a.tmps[71]?.getD undef = .slice (some ⟨bp, 0, none⟩) 1 1 := by rw [ha, e6 (hd ⟨6, .data⟩ (by simp) rfl)]; kernel_rfl
                          have hT := O1 (hd ⟨1, .data⟩ (by simp) rfl)
                          have hV1 := V1 (hd ⟨1, .data⟩ (by simp) rfl)
                          have hL1 := L1 (hd ⟨1, .data⟩ (by simp) rfl)
                          have hI6 := I6 (hd ⟨6, .data⟩ (by simp) rfl)
                          obtain ⟨ta, tc, rfl, hTI⟩ := hT.2
                          refine wp_enter (f := 55) (args := #[.slice ta tz.length tc, .slice (some ⟨bp, 0, none⟩) 1 1]) (by simp [execOp, ev, ev', go_sem]) ?_
                          refine (rsum_any hTI hI6 (by omega) (by omega)).mono ?_
                          rintro e w6 ⟨nv, nz, rfl, nO, nV, nL, HB⟩
                          refine ⟨_, rfl, ?_⟩
                          exact ⟨v7, v65, v66, v67, v68, v69, v70, v71, (nv), _, tz, bp, nv, nz, by rw [ha]; kernel_rfl, below_size hB (Nat.le_refl _) HB, y7.imp_left .inr, fun h => e0 (h.resolve_left (by decide)), fun h => e1 (h.resolve_left (by decide)), fun h => e2 (h.resolve_left (by decide)), fun h => e3 (h.resolve_left (by decide)), fun h => e4 (h.resolve_left (by decide)), fun h => e5 (h.resolve_left (by decide)), fun h => e6 (h.resolve_left (by decide)), fun _ => rfl, fun h => absurd (h.resolve_left (by decide)) (fun h => hn (hcl 8 _ rfl h ⟨7, .data⟩ (by simp) rfl)), fun h => (O1 (h.resolve_left (by decide))).below HB, fun h => V1 (h.resolve_left (by decide)), fun h => L1 (h.resolve_left (by decide)), fun h => (I6 (h.resolve_left (by decide))).below HB, fun _ => nO.mono (Nat.le_trans hsW hB.size), fun _ => by rw [nV, hV1, hv.out, hvt.out, val8_one], fun _ => by omega⟩
                        | 8, ho =>
                          cases Option.some.inj ho
                          have ev : a.tmps[72]?.getD undef = sv := by rw [ha, e7 (hd ⟨7, .data⟩ (by simp) rfl)]; kernel_rfl
                          refine wp_value (w' := w') (v := sv) (by simp [execOp, ev, go_sem]) ?_
                          exact ⟨(sv), v65, v66, v67, v68, v69, v70, v71, v72, tv, tz, bp, sv, sz, by rw [ha]; kernel_rfl, hB, .inl (.inl rfl), fun h => e0 (h.resolve_left (by decide)), fun h => e1 (h.resolve_left (by decide)), fun h => e2 (h.resolve_left (by decide)), fun h => e3 (h.resolve_left (by decide)), fun h => e4 (h.resolve_left (by decide)), fun h => e5 (h.resolve_left (by decide)), fun h => e6 (h.resolve_left (by decide)), fun h => e7 (h.resolve_left (by decide)), fun _ => rfl, fun h => O1 (h.resolve_left (by decide)), fun h => V1 (h.resolve_left (by decide)), fun h => L1 (h.resolve_left (by decide)), fun h => I6 (h.resolve_left (by decide)), fun h => O7 (h.resolve_left (by decide)), fun h => V7 (h.resolve_left (by decide)), fun h => L7 (h.resolve_left (by decide))⟩
                        | i + 9, ho => simp at ho
                      case done =>
                        rintro D a w' ⟨v7, v65, v66, v67, v68, v69, v70, v71, v72, tv, tz, bp, sv, sz, ha, hB, y7, e0, e1, e2, e3, e4, e5, e6, e7, e8, O1, V1, L1, I6, O7, V7, L7⟩ hall
                        obtain rfl := e8 (hall 8 (by decide))
                        have oN := O7 (hall 7 (by decide))
                        have vN := V7 (hall 7 (by decide))
                        have lN := L7 (hall 7 (by decide))
                        clear e0 e1 e2 e3 e4 e5 e6 e7 e8 O1 V1 L1 I6 O7 V7 L7 hall
                        have hW2 := below_size hW (Nat.le_refl _) hB
                        rw [ha]
                        clear ha
                        simp only [Act.put, List.setIfInBounds_toArray, List.set_cons_zero, List.set_cons_succ]
                        go_wp2
                        go_roundw
                        case rel => exact ⟨k + 1, sz, by omega, by go_num, oN, vN, lN, hW2⟩
                        case measure => simp [intOf]; omega
                    · obtain rfl : k = ss.length := by omega
                      have hltI : ¬ (ss.length : Int) < (ss.length : Int) := by omega
                      have hv' := hv.out
                      rw [List.take_length] at hv'
                      have Hv : Hid (val8 zs = val10 ss) := hv'
                      have t2 := (hW.block _ (lt_of_block z)).trans z
                      have hcmp : decide ((ss.length : Int) < (ss.length : Int)) = false := decide_eq_false (by omega)
                      clear hv hv'
                      go_wp2_with fail
                      refine (fits_any false hI (by omega)).mono ?_
                      rintro e w6 ⟨nv, rfl, nO, HB⟩
                      rw [Hv.out] at nO ⊢
                      rw [← e3.out] at nO
                      rw [← e1.out, ← e2.out]
                      obtain ⟨bb, Kb⟩ : ∃ bb, Hid (rdB ss = bb) := ⟨_, rfl⟩
                      obtain ⟨ee, Ke⟩ : ∃ ee, Hid (rdE ss = ee) := ⟨_, rfl⟩
                      obtain ⟨mm, Km⟩ : ∃ mm, Hid (rdM ss = mm) := ⟨_, rfl⟩
                      rw [Km.out] at nO
                      rw [Kb.out, Ke.out]
                      obtain ⟨av, cv, rfl, _⟩ := nO.2
                      replace t2 := (HB.block _ (lt_of_block t2)).trans t2
                      have hB6 := below_size (below_size hB1 (Nat.le_refl _) hW) (Nat.le_refl _) HB
                      clear e1 e2 e3 Hv
                      obtain ⟨q0, q1, qf0, qf1⟩ := intVarT t2
                      go_wp2
                      exact bodyPost_ret (v := .tuple #[.agg #[.bool bb, .slice av mm.length cv], .int .i64 ee]) (by simp [results, Tryd.results42, go_sem, q0, q1]) rfl ⟨_, by rw [Kb.out, Ke.out], by rw [Km.out]; exact OwnB.put (base := w.heap.size + 1) (b := w.heap.size) (b0 := w.heap.size) (nO.mono (by omega)) (by omega) (by omega), below_put (b := w.heap.size) hB6 (by omega)⟩
                · exact absurd h4 (by omega)
        · have hbad : rdOk ss = false := rdOk_no hD (.inr ⟨by rw [h48]; rfl, hl1⟩)
          have hl1' : ((ss.length : Int) == 1) = false := by simp; omega
          clear h45 h48
          go_wp2
          generalize w.alloc (.cells #[.bool false, .slice none 0 0] 58) = w1 at *
          go_loop [6, 5] (fun i o => ∃ k : Nat, k ≤ ss.length ∧ i = .int .i64 k ∧ o = .bool false) (fun i _ => ss.length - (intOf i).toNat)
          case atStart => exact ⟨0, Nat.zero_le _, rfl, rfl⟩
          case round =>
            obtain ⟨k, hk, rfl, rfl⟩ := hrel
            by_cases hlt : k < ss.length
            · have hltI : (k : Int) < (ss.length : Int) := by omega
              go_wp2
              go_round
              case rel => exact ⟨k + 1, by omega, by go_num, rfl⟩
              case measure => simp [intOf]; omega
            · obtain rfl : k = ss.length := by omega
              have hltI : ¬ (ss.length : Int) < (ss.length : Int) := by omega
              obtain ⟨q0, q1, qf0, qf1⟩ := intVarT z
              obtain ⟨e1, e2, e3⟩ := rd_bad hbad
              go_wp2
              exact bodyPost_ret (v := .tuple #[.agg #[.bool false, .slice none 0 0], .int .i64 11]) (by simp [results, Tryd.results42, go_sem, q0, q1]) rfl ⟨.slice none 0 0, by rw [e1.out, e2.out], by rw [e3.out]; exact ownB_of (n := 0) (World.ownsRow_nil _ _ _ _) (by simp), below_put (b := w.heap.size) hB1 (Nat.le_refl _)⟩
      · have hok : Hid (rdOk ss = digB ss) := rdOk_of hD hne (.inl (by simpa using h48))
        obtain ⟨d0, hd0e⟩ : ∃ x, ss.getD 0 0 = x := ⟨_, rfl⟩
        rw [hd0e] at hat0 hc0 h48 h45
        have h48b : (d0 == 48) = false := by simpa using h48
        have h45b : (d0 == 45) = false := by simpa using h45
        clear hd0e
        go_wp2
        generalize w.alloc (.cells #[.bool false, .slice none 0 0] 58) = w1 at *
        clear hat0 h48 h48b h45 h45b
        go_loop [6, 5] (fun i o => ∃ k : Nat, k ≤ ss.length ∧ i = .int .i64 k ∧ o = .bool (digB (ss.take k))) (fun i _ => ss.length - (intOf i).toNat)
        case atStart => exact ⟨0, Nat.zero_le _, rfl, rfl⟩
        case round =>
          obtain ⟨k, hk, rfl, rfl⟩ := hrel
          by_cases hlt : k < ss.length
          · have hltI : (k : Int) < (ss.length : Int) := by omega
            have hat := str_at ss hdb k hlt
            have hcb := bytes_at hdb k hlt
            have ht := digB_take ss k hlt
            obtain ⟨c, hc⟩ : ∃ c, ss.getD k 0 = c := ⟨_, rfl⟩
            rw [hc] at hat hcb ht
            have Ht : Hid (digB (ss.take (k + 1)) = (digB (ss.take k) && (decide (48 ≤ c) && decide (c ≤ 57)))) := ht
            clear ht hc
            obtain ⟨ob, Hob⟩ : ∃ b, Hid (digB (ss.take k) = b) := ⟨_, rfl⟩
            rw [Hob.out]
            rw [Hob.out] at Ht
            cases ob with
            | false =>
              go_wp2
              go_round
              case rel => exact ⟨k + 1, by omega, by go_num, by rw [Ht.out]; rfl⟩
              case measure => simp [intOf]; omega
            | true =>
              by_cases h1 : 48 ≤ c
              · by_cases h2 : c ≤ 57
                · go_wp2
                  go_round
                  case rel => exact ⟨k + 1, by omega, by go_num, by rw [Ht.out, decide_eq_true h1, decide_eq_true h2]; rfl⟩
                  case measure => simp [intOf]; omega
                · have h2' : decide (c ≤ 57) = false := decide_eq_false h2
                  go_wp2
                  go_round
                  case rel => exact ⟨k + 1, by omega, by go_num, by rw [Ht.out, decide_eq_true h1, h2']; rfl⟩
                  case measure => simp [intOf]; omega
              · have h1' : decide (48 ≤ c) = false := decide_eq_false h1
                go_wp2
                go_round
                case rel => exact ⟨k + 1, by omega, by go_num, by rw [Ht.out, h1']; rfl⟩
                case measure => simp [intOf]; omega
          · obtain rfl : k = ss.length := by omega
            have hltI : ¬ (ss.length : Int) < (ss.length : Int) := by omega
            rw [List.take_length]
            obtain ⟨q0, q1, qf0, qf1⟩ := intVarT z
            cases hdg : digB ss with
            | false =>
              obtain ⟨e1, e2, e3⟩ := rd_bad (hok.out.trans hdg)
              go_wp2
              exact bodyPost_ret (v := .tuple #[.agg #[.bool false, .slice none 0 0], .int .i64 11]) (by simp [results, Tryd.results42, go_sem, q0, q1]) rfl ⟨.slice none 0 0, by rw [e1.out, e2.out], by rw [e3.out]; exact ownB_of (n := 0) (World.ownsRow_nil _ _ _ _) (by simp), below_put (b := w.heap.size) hB1 (Nat.le_refl _)⟩
            | true =>
              have hdd := (digB_iff ss).1 hdg
              by_cases h4 : ss.length ≤ 400
              · have h4' : ¬ (400 : Int) < (ss.length : Int) := by omega
                obtain ⟨e1, e2, e3⟩ := rd_good (hok.out.trans hdg) h4 hD hN
                clear hdg hok q0 q1 qf0 qf1
                have hd4 : ss.length ≤ 400 := by omega
                go_wp2
                go_loopw [8, 7] (fun i v wr => ∃ (k : Nat) (zs : List Int), k ≤ ss.length ∧ i = .int .i64 k ∧ OwnB wr (w.heap.size + 1) v zs ∧ Hid (val8 zs = val10 (ss.take k)) ∧ zs.length ≤ 2 * k ∧ Below w1.heap.size w1 wr) (fun i _ _ => ss.length - (intOf i).toNat)
                case atStart => exact ⟨0, [], Nat.zero_le _, rfl, ownB_of (n := 0) (World.ownsRow_nil _ _ _ _) (by simp), rfl, Nat.zero_le _, Below.refl _ _⟩
                case round =>
                  obtain ⟨k, zs, hk, rfl, hO, hv, hzl, hW⟩ := hrel
                  obtain ⟨p, c, rfl, hI⟩ := hO.2
                  have hsW := Nat.le_trans (Nat.le_of_eq hs1.symm) hW.size
                  by_cases hlt : k < ss.length
                  · have hltI : (k : Int) < (ss.length : Int) := by omega
                    have hat := str_at ss hdb k hlt
                    have hdg := hdd (ss.getD k 0) (by rw [show ss.getD k 0 = ss[k] by simp [hlt]]; exact List.getElem_mem hlt)
                    have hvt0 := val10_take ss k hlt
                    obtain ⟨x, hx, hx9⟩ : ∃ x : Nat, ss.getD k 0 = (x : Int) + 48 ∧ x ≤ 9 := ⟨(ss.getD k 0 - 48).toNat, by omega, by omega⟩
                    rw [hx] at hat hvt0
                    have hvt : Hid (val10 (ss.take (k + 1)) = val10 (ss.take k) * 10 + x) := by show _ = _; rw [hvt0, show ((x : Int) + 48 - 48).toNat = x by omega]
                    have hx48 : IntKind.u8.wrap (x : Int) = (x : Int) := by rw [IntKind.wrap_u8]; omega
                    have hkS : k < ((strOfNums ss)).size := by omega
                    clear hvt0 hdg hx
                    go_wp2
                    refine wp_region_inv' (fun A D a w' => ∃ v7 v65 v66 v67 v68 v69 v70 v71 v72 tv tz bp sv sz, a = (((((((((A.put (some 7) v7).put (some 65) v65).put (some 66) v66).put (some 67) v67).put (some 68) v68).put (some 69) v69).put (some 70) v70).put (some 71) v71).put (some 72) v72) ∧ Below wr.heap.size wr w' ∧ (D 8 ∨ v7 = .slice p zs.length c) ∧ (D 0 → v65 = .slice p zs.length c) ∧ (D 1 → v66 = tv) ∧ (D 2 → v67 = .string (strOfNums ss)) ∧ (D 3 → v68 = .int .i64 (k : Int)) ∧ (D 4 → v69 = .int .u8 ((x : Int) + 48)) ∧ (D 5 → v70 = .int .u8 (x : Int)) ∧ (D 6 → v71 = .slice (some ⟨bp, 0, none⟩) 1 1) ∧ (D 7 → v72 = sv) ∧ (D 8 → v7 = sv) ∧ (D 1 → OwnB w' (w.heap.size + 1) tv tz) ∧ (D 1 → val8 tz = val8 zs * 10) ∧ (D 1 → tz.length ≤ 2 * k + 1) ∧ (D 6 → IsB w' (some ⟨bp, 0, none⟩) 1 1 [(x : Int)]) ∧ (D 7 → OwnB w' (w.heap.size + 1) sv sz) ∧ (D 7 → val8 sz = val10 (ss.take (k + 1))) ∧ (D 7 → sz.length ≤ 2 * (k + 1))) (by kernel_rfl) (by kernel_rfl) ?mono ?start ?step ?done
                    case mono =>
                      rintro D D' a w' hD ⟨v7, v65, v66, v67, v68, v69, v70, v71, v72, tv, tz, bp, sv, sz, ha, hB, y7, e0, e1, e2, e3, e4, e5, e6, e7, e8, O1, V1, L1, I6, O7, V7, L7⟩
                      exact ⟨v7, v65, v66, v67, v68, v69, v70, v71, v72, tv, tz, bp, sv, sz, ha, hB, y7.imp_left (hD 8).1, fun h => e0 ((hD 0).2 h), fun h => e1 ((hD 1).2 h), fun h => e2 ((hD 2).2 h), fun h => e3 ((hD 3).2 h), fun h => e4 ((hD 4).2 h), fun h => e5 ((hD 5).2 h), fun h => e6 ((hD 6).2 h), fun h => e7 ((hD 7).2 h), fun h => e8 ((hD 8).2 h), fun h => O1 ((hD 1).2 h), fun h => V1 ((hD 1).2 h), fun h => L1 ((hD 1).2 h), fun h => I6 ((hD 6).2 h), fun h => O7 ((hD 7).2 h), fun h => V7 ((hD 7).2 h), fun h => L7 ((hD 7).2 h)⟩
                    case start => exact ⟨(.slice p zs.length c), u65, u66, u67, u68, u69, u70, u71, u72, undef, [], 0, undef, [], by kernel_rfl, (Below.refl _ _).drew, .inr rfl, fun h => h.elim, fun h => h.elim, fun h => h.elim, fun h => h.elim, fun h => h.elim, fun h => h.elim, fun h => h.elim, fun h => h.elim, fun h => h.elim, fun h => h.elim, fun h => h.elim, fun h => h.elim, fun h => h.elim, fun h => h.elim, fun h => h.elim, fun h => h.elim⟩
                    case step =>
                      intro i o ho D a w' hI hn hcl hd
                      obtain ⟨v7, v65, v66, v67, v68, v69, v70, v71, v72, tv, tz, bp, sv, sz, ha, hB, y7, e0, e1, e2, e3, e4, e5, e6, e7, e8, O1, V1, L1, I6, O7, V7, L7⟩ := hI
                      match i, ho with
                      | 0, ho =>
                        cases Option.some.inj ho
                        have ev : a.tmps[7]?.getD undef = .slice p zs.length c := by rw [ha, y7.resolve_left (fun h => (fun h => (fun h => hn (hcl 1 _ rfl h ⟨0, .data⟩ (by simp) rfl)) (hcl 7 _ rfl h ⟨1, .data⟩ (by simp) rfl)) (hcl 8 _ rfl h ⟨7, .data⟩ (by simp) rfl))]; kernel_rfl
                        refine wp_value (w' := w') (v := .slice p zs.length c) (by simp [execOp, ev, go_sem]) ?_
                        exact ⟨v7, (.slice p zs.length c), v66, v67, v68, v69, v70, v71, v72, tv, tz, bp, sv, sz, by rw [ha]; kernel_rfl, hB, y7.imp_left .inr, fun _ => rfl, fun h => e1 (h.resolve_left (by decide)), fun h => e2 (h.resolve_left (by decide)), fun h => e3 (h.resolve_left (by decide)), fun h => e4 (h.resolve_left (by decide)), fun h => e5 (h.resolve_left (by decide)), fun h => e6 (h.resolve_left (by decide)), fun h => e7 (h.resolve_left (by decide)), fun h => e8 (h.resolve_left (by decide)), fun h => O1 (h.resolve_left (by decide)), fun h => V1 (h.resolve_left (by decide)), fun h => L1 (h.resolve_left (by decide)), fun h => I6 (h.resolve_left (by decide)), fun h => O7 (h.resolve_left (by decide)), fun h => V7 (h.resolve_left (by decide)), fun h => L7 (h.resolve_left (by decide))⟩
                      | 1, ho =>
                        cases Option.some.inj ho
                        have ev : a.tmps[65]?.getD undef = .slice p zs.length c := by rw [ha, e0 (hd ⟨0, .data⟩ (by simp) rfl)]; kernel_rfl
                        refine wp_enter (f := 56) (args := #[.slice p zs.length c, .int .i64 10, .int .i64 0]) (by simp [execOp, ev, go_sem]) ?_
                        refine (times_any 10 0 (hI.below hB) (by omega) (by decide) (by decide)).mono ?_
                        rintro e w6 ⟨nv, nz, rfl, nO, nV, nL, HB⟩
                        refine ⟨_, rfl, ?_⟩
                        exact ⟨v7, v65, (nv), v67, v68, v69, v70, v71, v72, nv, nz, bp, sv, sz, by rw [ha]; kernel_rfl, below_size hB (Nat.le_refl _) HB, y7.imp_left .inr, fun h => e0 (h.resolve_left (by decide)), fun _ => rfl, fun h => e2 (h.resolve_left (by decide)), fun h => e3 (h.resolve_left (by decide)), fun h => e4 (h.resolve_left (by decide)), fun h => e5 (h.resolve_left (by decide)), fun h => e6 (h.resolve_left (by decide)), fun h => e7 (h.resolve_left (by decide)), fun h => e8 (h.resolve_left (by decide)), fun _ => nO.mono (Nat.le_trans hsW hB.size), fun _ => by rw [nV]; simp, fun _ => by omega, fun h => (I6 (h.resolve_left (by decide))).below HB, fun h => (O7 (h.resolve_left (by decide))).below HB, fun h => V7 (h.resolve_left (by decide)), fun h => L7 (h.resolve_left (by decide))⟩
                      | 2, ho =>
                        cases Option.some.inj ho
                        have ev : a.tmps[4]?.getD undef = .string (strOfNums ss) := by rw [ha]; kernel_rfl
                        refine wp_value (w' := w') (v := .string (strOfNums ss)) (by simp [execOp, ev, go_sem]) ?_
                        exact ⟨v7, v65, v66, (.string (strOfNums ss)), v68, v69, v70, v71, v72, tv, tz, bp, sv, sz, by rw [ha]; kernel_rfl, hB, y7.imp_left .inr, fun h => e0 (h.resolve_left (by decide)), fun h => e1 (h.resolve_left (by decide)), fun _ => rfl, fun h => e3 (h.resolve_left (by decide)), fun h => e4 (h.resolve_left (by decide)), fun h => e5 (h.resolve_left (by decide)), fun h => e6 (h.resolve_left (by decide)), fun h => e7 (h.resolve_left (by decide)), fun h => e8 (h.resolve_left (by decide)), fun h => O1 (h.resolve_left (by decide)), fun h => V1 (h.resolve_left (by decide)), fun h => L1 (h.resolve_left (by decide)), fun h => I6 (h.resolve_left (by decide)), fun h => O7 (h.resolve_left (by decide)), fun h => V7 (h.resolve_left (by decide)), fun h => L7 (h.resolve_left (by decide))⟩
                      | 3, ho =>
                        cases Option.some.inj ho
                        have ev : a.tmps[8]?.getD undef = .int .i64 (k : Int) := by rw [ha]; kernel_rfl
                        refine wp_value (w' := w') (v := .int .i64 (k : Int)) (by simp [execOp, ev, go_sem]) ?_
                        exact ⟨v7, v65, v66, v67, (.int .i64 (k : Int)), v69, v70, v71, v72, tv, tz, bp, sv, sz, by rw [ha]; kernel_rfl, hB, y7.imp_left .inr, fun h => e0 (h.resolve_left (by decide)), fun h => e1 (h.resolve_left (by decide)), fun h => e2 (h.resolve_left (by decide)), fun _ => rfl, fun h => e4 (h.resolve_left (by decide)), fun h => e5 (h.resolve_left (by decide)), fun h => e6 (h.resolve_left (by decide)), fun h => e7 (h.resolve_left (by decide)), fun h => e8 (h.resolve_left (by decide)), fun h => O1 (h.resolve_left (by decide)), fun h => V1 (h.resolve_left (by decide)), fun h => L1 (h.resolve_left (by decide)), fun h => I6 (h.resolve_left (by decide)), fun h => O7 (h.resolve_left (by decide)), fun h => V7 (h.resolve_left (by decide)), fun h => L7 (h.resolve_left (by decide))⟩
                      | 4, ho =>
                        cases Option.some.inj ho
                        have ev : a.tmps[67]?.getD undef = .string (strOfNums ss) := by rw [ha, e2 (hd ⟨2, .data⟩ (by simp) rfl)]; kernel_rfl
                        have ev' : a.tmps[68]?.getD undef = .int .i64 (k : Int) := by rw [ha, e3 (hd ⟨3, .data⟩ (by simp) rfl)]; kernel_rfl
                        refine wp_value (w' := w') (v := .int .u8 ((x : Int) + 48)) (by simp [execOp, ev, ev', go_sem, hat, hkS]) ?_
                        exact ⟨v7, v65, v66, v67, v68, (.int .u8 ((x : Int) + 48)), v70, v71, v72, tv, tz, bp, sv, sz, by rw [ha]; kernel_rfl, hB, y7.imp_left .inr, fun h => e0 (h.resolve_left (by decide)), fun h => e1 (h.resolve_left (by decide)), fun h => e2 (h.resolve_left (by decide)), fun h => e3 (h.resolve_left (by decide)), fun _ => rfl, fun h => e5 (h.resolve_left (by decide)), fun h => e6 (h.resolve_left (by decide)), fun h => e7 (h.resolve_left (by decide)), fun h => e8 (h.resolve_left (by decide)), fun h => O1 (h.resolve_left (by decide)), fun h => V1 (h.resolve_left (by decide)), fun h => L1 (h.resolve_left (by decide)), fun h => I6 (h.resolve_left (by decide)), fun h => O7 (h.resolve_left (by decide)), fun h => V7 (h.resolve_left (by decide)), fun h => L7 (h.resolve_left (by decide))⟩
                      | 5, ho =>
                        cases Option.some.inj ho
                        have ev : a.tmps[69]?.getD undef = .int .u8 ((x : Int) + 48) := by rw [ha, e4 (hd ⟨4, .data⟩ (by simp) rfl)]; kernel_rfl
                        refine wp_value (w' := w') (v := .int .u8 (x : Int)) (by simp [execOp, ev, go_sem, hx48]) ?_
                        exact ⟨v7, v65, v66, v67, v68, v69, (.int .u8 (x : Int)), v71, v72, tv, tz, bp, sv, sz, by rw [ha]; kernel_rfl, hB, y7.imp_left .inr, fun h => e0 (h.resolve_left (by decide)), fun h => e1 (h.resolve_left (by decide)), fun h => e2 (h.resolve_left (by decide)), fun h => e3 (h.resolve_left (by decide)), fun h => e4 (h.resolve_left (by decide)), fun _ => rfl, fun h => e6 (h.resolve_left (by decide)), fun h => e7 (h.resolve_left (by decide)), fun h => e8 (h.resolve_left (by decide)), fun h => O1 (h.resolve_left (by decide)), fun h => V1 (h.resolve_left (by decide)), fun h => L1 (h.resolve_left (by decide)), fun h => I6 (h.resolve_left (by decide)), fun h => O7 (h.resolve_left (by decide)), fun h => V7 (h.resolve_left (by decide)), fun h => L7 (h.resolve_left (by decide))⟩
                      | 6, ho =>
                        cases Option.some.inj ho
                        have ev : a.tmps[70]?.getD undef = .int .u8 (x : Int) := by rw [ha, e5 (hd ⟨5, .data⟩ (by simp) rfl)]; kernel_rfl
                        refine wp_value (w' := w'.alloc (.cells #[.int .u8 (x : Int)] 5)) (v := .slice (some ⟨w'.heap.size, 0, none⟩) 1 1) (by simp [execOp, ev, go_sem]) ?_
                        exact ⟨v7, v65, v66, v67, v68, v69, v70, (.slice (some ⟨w'.heap.size, 0, none⟩) 1 1), v72, tv, tz, w'.heap.size, sv, sz, by rw [ha]; kernel_rfl, hB.alloc hB.size _, y7.imp_left .inr, fun h => e0 (h.resolve_left (by decide)), fun h => e1 (h.resolve_left (by decide)), fun h => e2 (h.resolve_left (by decide)), fun h => e3 (h.resolve_left (by decide)), fun h => e4 (h.resolve_left (by decide)), fun h => e5 (h.resolve_left (by decide)), fun _ => rfl, fun h => e7 (h.resolve_left (by decide)), fun h => e8 (h.resolve_left (by decide)), fun h => (O1 (h.resolve_left (by decide))).alloc _, fun h => V1 (h.resolve_left (by decide)), fun h => L1 (h.resolve_left (by decide)), fun _ => isB_lit w' #[.int .u8 (x : Int)] [(x : Int)] 1 rfl (by decide) rfl (by simp; omega) (0, 0), fun h => (O7 (h.resolve_left (by decide))).alloc _, fun h => V7 (h.resolve_left (by decide)), fun h => L7 (h.resolve_left (by decide))⟩
                      | 7, ho =>
                        cases Option.some.inj ho
                        have ev : a.tmps[66]?.getD undef = tv := by rw [ha, e1 (hd ⟨1, .data⟩ (by simp) rfl)]; kernel_rfl
                        have ev' : a.tmps[71]?.getD undef = .slice (some ⟨bp, 0, none⟩) 1 1 := by rw [ha, e6 (hd ⟨6, .data⟩ (by simp) rfl)]; kernel_rfl
                        have hT := O1 (hd ⟨1, .data⟩ (by simp) rfl)
                        have hV1 := V1 (hd ⟨1, .data⟩ (by simp) rfl)
                        have hL1 := L1 (hd ⟨1, .data⟩ (by simp) rfl)
                        have hI6 := I6 (hd ⟨6, .data⟩ (by simp) rfl)
                        obtain ⟨ta, tc, rfl, hTI⟩ := hT.2
                        refine wp_enter (f := 55) (args := #[.slice ta tz.length tc, .slice (some ⟨bp, 0, none⟩) 1 1]) (by simp [execOp, ev, ev', go_sem]) ?_
                        refine (rsum_any hTI hI6 (by omega) (by omega)).mono ?_
                        rintro e w6 ⟨nv, nz, rfl, nO, nV, nL, HB⟩
                        refine ⟨_, rfl, ?_⟩
                        exact ⟨v7, v65, v66, v67, v68, v69, v70, v71, (nv), _, tz, bp, nv, nz, by rw [ha]; kernel_rfl, below_size hB (Nat.le_refl _) HB, y7.imp_left .inr, fun h => e0 (h.resolve_left (by decide)), fun h => e1 (h.resolve_left (by decide)), fun h => e2 (h.resolve_left (by decide)), fun h => e3 (h.resolve_left (by decide)), fun h => e4 (h.resolve_left (by decide)), fun h => e5 (h.resolve_left (by decide)), fun h => e6 (h.resolve_left (by decide)), fun _ => rfl, fun h => absurd (h.resolve_left (by decide)) (fun h => hn (hcl 8 _ rfl h ⟨7, .data⟩ (by simp) rfl)), fun h => (O1 (h.resolve_left (by decide))).below HB, fun h => V1 (h.resolve_left (by decide)), fun h => L1 (h.resolve_left (by decide)), fun h => (I6 (h.resolve_left (by decide))).below HB, fun _ => nO.mono (Nat.le_trans hsW hB.size), fun _ => by rw [nV, hV1, hv.out, hvt.out, val8_one], fun _ => by omega⟩
                      | 8, ho =>
                        cases Option.some.inj ho
                        have ev : a.tmps[72]?.getD undef = sv := by rw [ha, e7 (hd ⟨7, .data⟩ (by simp) rfl)]; kernel_rfl
                        refine wp_value (w' := w') (v := sv) (by simp [execOp, ev, go_sem]) ?_
                        exact ⟨(sv), v65, v66, v67, v68, v69, v70, v71, v72, tv, tz, bp, sv, sz, by rw [ha]; kernel_rfl, hB, .inl (.inl rfl), fun h => e0 (h.resolve_left (by decide)), fun h => e1 (h.resolve_left (by decide)), fun h => e2 (h.resolve_left (by decide)), fun h => e3 (h.resolve_left (by decide)), fun h => e4 (h.resolve_left (by decide)), fun h => e5 (h.resolve_left (by decide)), fun h => e6 (h.resolve_left (by decide)), fun h => e7 (h.resolve_left (by decide)), fun _ => rfl, fun h => O1 (h.resolve_left (by decide)), fun h => V1 (h.resolve_left (by decide)), fun h => L1 (h.resolve_left (by decide)), fun h => I6 (h.resolve_left (by decide)), fun h => O7 (h.resolve_left (by decide)), fun h => V7 (h.resolve_left (by decide)), fun h => L7 (h.resolve_left (by decide))⟩
                      | i + 9, ho => simp at ho
                    case done =>
                      rintro D a w' ⟨v7, v65, v66, v67, v68, v69, v70, v71, v72, tv, tz, bp, sv, sz, ha, hB, y7, e0, e1, e2, e3, e4, e5, e6, e7, e8, O1, V1, L1, I6, O7, V7, L7⟩ hall
                      obtain rfl := e8 (hall 8 (by decide))
                      have oN := O7 (hall 7 (by decide))
                      have vN := V7 (hall 7 (by decide))
                      have lN := L7 (hall 7 (by decide))
                      clear e0 e1 e2 e3 e4 e5 e6 e7 e8 O1 V1 L1 I6 O7 V7 L7 hall
                      have hW2 := below_size hW (Nat.le_refl _) hB
                      rw [ha]
                      clear ha
                      simp only [Act.put, List.setIfInBounds_toArray, List.set_cons_zero, List.set_cons_succ]
                      go_wp2
                      go_roundw
                      case rel => exact ⟨k + 1, sz, by omega, by go_num, oN, vN, lN, hW2⟩
                      case measure => simp [intOf]; omega
                  · obtain rfl : k = ss.length := by omega
                    have hltI : ¬ (ss.length : Int) < (ss.length : Int) := by omega
                    have hv' := hv.out
                    rw [List.take_length] at hv'
                    have Hv : Hid (val8 zs = val10 ss) := hv'
                    have t2 := (hW.block _ (lt_of_block z)).trans z
                    have hcmp : decide ((ss.length : Int) < (ss.length : Int)) = false := decide_eq_false (by omega)
                    clear hv hv'
                    go_wp2_with fail
                    refine (fits_any false hI (by omega)).mono ?_
                    rintro e w6 ⟨nv, rfl, nO, HB⟩
                    rw [Hv.out] at nO ⊢
                    rw [← e3.out] at nO
                    rw [← e1.out, ← e2.out]
                    obtain ⟨bb, Kb⟩ : ∃ bb, Hid (rdB ss = bb) := ⟨_, rfl⟩
                    obtain ⟨ee, Ke⟩ : ∃ ee, Hid (rdE ss = ee) := ⟨_, rfl⟩
                    obtain ⟨mm, Km⟩ : ∃ mm, Hid (rdM ss = mm) := ⟨_, rfl⟩
                    rw [Km.out] at nO
                    rw [Kb.out, Ke.out]
                    obtain ⟨av, cv, rfl, _⟩ := nO.2
                    replace t2 := (HB.block _ (lt_of_block t2)).trans t2
                    have hB6 := below_size (below_size hB1 (Nat.le_refl _) hW) (Nat.le_refl _) HB
                    clear e1 e2 e3 Hv
                    obtain ⟨q0, q1, qf0, qf1⟩ := intVarT t2
                    go_wp2
                    exact bodyPost_ret (v := .tuple #[.agg #[.bool bb, .slice av mm.length cv], .int .i64 ee]) (by simp [results, Tryd.results42, go_sem, q0, q1]) rfl ⟨_, by rw [Kb.out, Ke.out], by rw [Km.out]; exact OwnB.put (base := w.heap.size + 1) (b := w.heap.size) (b0 := w.heap.size) (nO.mono (by omega)) (by omega) (by omega), below_put (b := w.heap.size) hB6 (by omega)⟩
              · have h4' : (400 : Int) < (ss.length : Int) := by omega
                obtain ⟨e1, e2, e3⟩ := rd_long (hok.out.trans hdg) h4
                go_wp2
                exact bodyPost_ret (v := .tuple #[.agg #[.bool false, .slice none 0 0], .int .i64 24]) (by simp [results, Tryd.results42, go_sem, q0, q1]) rfl ⟨.slice none 0 0, by rw [e1.out, e2.out], by rw [e3.out]; exact ownB_of (n := 0) (World.ownsRow_nil _ _ _ _) (by simp), below_put (b := w.heap.size) hB1 (Nat.le_refl _)⟩
end Go.Proofs.YtlhmeipbcioncaaDoor
