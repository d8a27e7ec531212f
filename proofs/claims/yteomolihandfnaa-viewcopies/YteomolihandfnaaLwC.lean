/- The law ViewCopies. -/
import Derived.Test.YteomolihandfnaaVcp
import Derived.Test.YteomolihandfnaaLwL
import Derived.Test.YteomolihandfnaaOpa
namespace Go.Proofs.Yteomolihandfnaa
open Go.RowKit
set_option maxRecDepth 100000
section
variable {W0 W1 w w' : World} {Y : Nat → Prop} {tb b b2 : Nat} {t : Tab} {v v2 : Vw}
theorem Hv.kyPut (h : Hv W0 W1 Y tb t b v w) (hk : KyV v) (k : Int) (o : Ob) : KyV (putV v t k o) := by
  obtain ⟨S, R, V, Q, h1, h2, _⟩ := h
  exact hk.put h1 k o
theorem Hv.kyMake (h : Hv W0 W1 Y tb t b v w) (hk : KyV v) (o : Ob) : KyV (makeV v o) := by
  obtain ⟨S, R, V, Q, h1, h2, _⟩ := h
  exact hk.make h2.made0.1 o
theorem Hw.cls (h : Hw W0 W1 Y tb t b v b2 v2 w) (k : Int) : -9223372036854775808 ≤ clsR (peekR v t k) ∧ clsR (peekR v t k) ≤ 9223372036854775807 := by
  obtain ⟨S, R, V, Q, V2, Q2, h1, h2, _⟩ := h
  exact pk_cls h1 h2 k
theorem hw_reads (h : Hw W0 W1 Y tb t b v b2 v2 w) (hk : KyV v) : Calls Try.prog 26 #[.pointer (some ⟨b, 0, none⟩)] w (OopP w (rdK v)) := by
  obtain ⟨S, R, V, Q, V2, Q2, h1, h2, _⟩ := h
  exact reads_any h2 hk
theorem hw_news (h : Hw W0 W1 Y tb t b v b2 v2 w) (hk : KyV v) : Calls Try.prog 28 #[.pointer (some ⟨b, 0, none⟩)] w (OopP w (oopsL v 4097 8192)) := by
  obtain ⟨S, R, V, Q, V2, Q2, h1, h2, _⟩ := h
  exact news_any h2 hk
end
theorem putV_base (v : Vw) (t : Tab) (k : Int) (o : Ob) : (putV v t k o).base = v.base := by unfold putV; split <;> rfl
theorem makeV_base (v : Vw) (o : Ob) : (makeV v o).base = v.base := by unfold makeV; split <;> rfl
theorem readV_base (v : Vw) (k : Int) : (readV v k).base = v.base := by unfold readV; split <;> rfl
theorem base_rp {v v2 : Vw} (h : Hid (v2.base = v.base)) (t : Tab) (k : Int) (o : Ob) (i : Int) : Hid ((readV (putV v2 t k o) i).base = v.base) := by show _ = _; rw [readV_base, putV_base]; exact h
theorem base_rm {v v2 : Vw} (h : Hid (v2.base = v.base)) (o : Ob) (i : Int) : Hid ((readV (makeV v2 o) i).base = v.base) := by show _ = _; rw [readV_base, makeV_base]; exact h
theorem KpV.own {w w' : World} (h : KpV w w') {base n : Nat} {v : Value} {xs : List Value} (ho : w.ownsRow base 2 1 v n xs) : w'.ownsRow base 2 1 v n xs := own_same ho fun g hg => by
  obtain ⟨_, cur, hh⟩ := own_block ho hg
  exact h.keep g cur _ hh (by decide)
theorem own_i64 {w : World} {base n c : Nat} {a : Option Addr} {xs : List Int} (h : w.ownsRow base 2 1 (.slice a n c) n (xs.map (Value.int .i64))) (hn : n = xs.length) (k : Nat) (hk : k < n) : ∃ g x, a = some ⟨g, 0, none⟩ ∧ g < w.heap.size ∧ w.cell? ⟨g, k, none⟩ = some (.int .i64 x) ∧ Hid (xs[k]? = some x) := by
  rcases h.2 with ⟨_, h0⟩ | ⟨g0, cap, cur, e, hbg, hgh, hnc, hcm, hcs, htake⟩
  · omega
  · cases e
    have hx : (xs.map (Value.int .i64))[k]? = some (.int .i64 (xs[k]'(by omega))) := by simp [List.getElem?_eq_getElem (show k < xs.length by omega)]
    have hc := World.ownsRow.cells h (g := g0) rfl k _ hx
    rw [Addr.add_lit, Nat.zero_add] at hc
    exact ⟨g0, _, rfl, lt_of_cell hc, hc, List.getElem?_eq_getElem (by omega)⟩
set_option maxHeartbeats 4000000 in
theorem lsame_yes {w : World} {base1 base2 n c1 c2 : Nat} {a1 a2 : Option Addr} {xs : List Int} (h1 : w.ownsRow base1 2 1 (.slice a1 n c1) n (xs.map (Value.int .i64))) (h2 : w.ownsRow base2 2 1 (.slice a2 n c2) n (xs.map (Value.int .i64))) (hn : n = xs.length) (h4 : n ≤ 8192) :
    Calls Try.prog 33 #[.slice a1 n c1, .slice a2 n c2] w fun e w' => e = .returned (.bool true) ∧ Below w.heap.size w w' := by
  replace hn : Hid (n = xs.length) := hn
  go_enter Try.func33, Try.ntmps33
  go_wp2
  go_loopw [5] (fun iv wr => ∃ (k q : Nat), k ≤ n ∧ iv = .int .i64 (k : Int) ∧ wr = w.drewN q) (fun iv _ => n - (intOf iv).toNat)
  case atStart => exact ⟨0, 0, by omega, rfl, rfl⟩
  case round =>
    obtain ⟨k, q, hk, rfl, rfl⟩ := hrel
    by_cases hlt : k < n
    · obtain ⟨g1, x1, rfl, hb1, d1, e1⟩ := own_i64 h1 hn.out k hlt
      obtain ⟨g2, x2, rfl, hb2, d2, e2⟩ := own_i64 h2 hn.out k hlt
      obtain rfl : x1 = x2 := Option.some.inj (e1.out.symm.trans e2.out)
      have hki : (k : Int) < (n : Int) := by omega
      go_wp2_with fail
      go_quiet (fail)
      go_wp2
      go_roundw
      case rel => exact ⟨k + 1, _, by omega, by go_num, rfl⟩
      case measure => simp [intOf]; omega
    · go_wp2
      go_ret
      exact ⟨rfl, below_drewN (Below.refl _ _) _⟩
set_option maxHeartbeats 32000000 in
theorem viewCopies_true {w : World} {la : Option Addr} {ln lc : Nat} {ls : List Rm} (hl : IsRs w la ln lc ls) {aa : Option Addr} {an ac : Nat} {as_ : List Ac} (has : IsAs w aa an ac as_) {ba : Option Addr} {bn bc : Nat} {bs_ : List Ac} (hbs_ : IsAs w ba bn bc bs_) (oop : Int) :
    Calls Try.prog 7 #[.slice la ln lc, .slice aa an ac, .slice ba bn bc, .int .i64 oop] w fun e w' => e = .returned (.bool true) ∧ Below w.heap.size w w' := by
  have an4 : an ≤ 9223372036854775807 := by have h1 := has.room; have h2 := has.most; unfold maxLen at h2; omega
  have bn4 : bn ≤ 9223372036854775807 := by have h1 := hbs_.room; have h2 := hbs_.most; unfold maxLen at h2; omega
  go_enter Try.func7, Try.ntmps7
  go_wp2_with fail
  refine (both_any hl).mono ?_
  rintro e w2 ⟨tb, ub, u, rfl, hb, _, _⟩
  have hd := hb.hd
  obtain ⟨T, hT⟩ : ∃ T, tabOf (ls.take 12) = T := ⟨_, rfl⟩
  rw [hT] at hd
  clear hb hT hl
  go_wp2_with fail
  refine (hd_view hd).mono ?_
  rintro e w3 ⟨vb, rfl, hv⟩
  clear hd
  go_wp2_with fail
  go_loopw [12] (fun iv wr => ∃ (j : Nat) (v : Vw), j ≤ an ∧ j ≤ 30 ∧ iv = .int .i64 (j : Int) ∧ Hv w w2 (fun _ => False) tb T vb v wr ∧ KyV v) (fun iv _ => an - (intOf iv).toNat)
  case atStart => exact ⟨0, _, by omega, by omega, rfl, hv, KyV.new _⟩
  case round =>
    obtain ⟨j, v, hj1, hj2, rfl, hvr, hky⟩ := hrel
    clear hv
    go_upto_region 6 with fail
    go_cut [37] from 30 to 71 (fun v wx => v = .bool (decide (j < an ∧ j < 30)) ∧ wx = wr)
    case first =>
      by_cases h1 : j < an
      · have hlt1 : (j : Int) < (an : Int) := by omega
        by_cases h2 : j < 30
        · have hlt2 : (j : Int) < 30 := by omega
          go_wp2
          go_meet
          case rel => exact ⟨by simp [h1, h2], rfl⟩
        · have hlt2 : ¬ (j : Int) < 30 := by omega
          go_wp2
          go_meet
          case rel => exact ⟨by simp [h1, h2], rfl⟩
      · have hlt1 : ¬ (j : Int) < (an : Int) := by omega
        go_wp2
        go_meet
        case rel => exact ⟨by simp [h1], rfl⟩
    case rest =>
      obtain ⟨rfl, rfl⟩ := hcut
      by_cases hgo : j < an ∧ j < 30
      · have hgd : decide (j < an ∧ j < 30) = true := decide_eq_true hgo
        rw [hgd]
        obtain ⟨hlt1, hlt2⟩ : (j : Int) < (an : Int) ∧ (j : Int) < 30 := by omega
        obtain ⟨ab, ao, m, rfl, hin, hcell⟩ := (has).at_ j hgo.1
        obtain ⟨hab, hc⟩ := hcell wc hvr.belowW
        have c0 : wc.cell? ⟨ab, ao + j * 7, none⟩ = some (.int .i64 m.kind) := hc 0 _ rfl
        have c1 : wc.cell? ⟨ab, ao + j * 7 + 1, none⟩ = some (.int .i64 m.oop) := hc 1 _ rfl
        have c2 : wc.cell? ⟨ab, ao + j * 7 + 2, none⟩ = some (.int .i64 m.o.cls) := hc 2 _ rfl
        have c3 : wc.cell? ⟨ab, ao + j * 7 + 3, none⟩ = some (.slice m.sa m.sn m.sc) := hc 3 _ rfl
        have c4 : wc.cell? ⟨ab, ao + j * 7 + 4, none⟩ = some (.slice m.ba m.bn m.bc) := hc 4 _ rfl
        clear hc hgd
        by_cases hk6 : m.kind < 6
        · clear hgo
          go_upto_region 9 with fail
          refine wp_region_inv' (fun A D a w' => ∃ v46 v47 v48 v49 v50 v51 v52 v53 v54 v55 v56 v57, a = ((((((((((((A.put (some 46) v46).put (some 47) v47).put (some 48) v48).put (some 49) v49).put (some 50) v50).put (some 51) v51).put (some 52) v52).put (some 53) v53).put (some 54) v54).put (some 55) v55).put (some 56) v56).put (some 57) v57) ∧ (D 11 ∨ Below wc.heap.size wc w') ∧ (D 0 → v46 = .pointer (some ⟨vb, 0, none⟩)) ∧ (D 1 → v47 = .slice (some ⟨ab, ao, none⟩) an ac) ∧ (D 2 → v48 = .int .i64 (j : Int)) ∧ (D 3 → v49 = .pointer (some ⟨ab, ao + j * 7, none⟩)) ∧ (D 4 → v50 = .pointer (some ⟨ab, ao + j * 7 + 1, none⟩)) ∧ (D 5 → v51 = .int .i64 m.oop) ∧ (D 6 → v52 = .slice (some ⟨ab, ao, none⟩) an ac) ∧ (D 7 → v53 = .int .i64 (j : Int)) ∧ (D 8 → v54 = .pointer (some ⟨ab, ao + j * 7, none⟩)) ∧ (D 9 → v55 = .pointer (some ⟨ab, ao + j * 7 + 2, none⟩)) ∧ (D 10 → v56 = .agg #[.int .i64 m.o.cls, .slice m.sa m.sn m.sc, .slice m.ba m.bn m.bc]) ∧ (D 11 → Hv w w2 (fun _ => False) tb T vb (putV v T m.oop m.o) w' ∧ KyV (putV v T m.oop m.o))) (by kernel_rfl) (by kernel_rfl) ?mono ?start ?step ?done
          case mono =>
            rintro D D' a w' hD ⟨v46, v47, v48, v49, v50, v51, v52, v53, v54, v55, v56, v57, ha, hB, e0, e1, e2, e3, e4, e5, e6, e7, e8, e9, e10, hQ⟩
            exact ⟨v46, v47, v48, v49, v50, v51, v52, v53, v54, v55, v56, v57, ha, hB.imp_left (hD 11).1, fun h => e0 ((hD 0).2 h), fun h => e1 ((hD 1).2 h), fun h => e2 ((hD 2).2 h), fun h => e3 ((hD 3).2 h), fun h => e4 ((hD 4).2 h), fun h => e5 ((hD 5).2 h), fun h => e6 ((hD 6).2 h), fun h => e7 ((hD 7).2 h), fun h => e8 ((hD 8).2 h), fun h => e9 ((hD 9).2 h), fun h => e10 ((hD 10).2 h), fun h => hQ ((hD 11).2 h)⟩
          case start => exact ⟨u46, u47, u48, u49, u50, u51, u52, u53, u54, u55, u56, u57, by kernel_rfl, .inr ((Below.refl _ _).drew), fun h => h.elim, fun h => h.elim, fun h => h.elim, fun h => h.elim, fun h => h.elim, fun h => h.elim, fun h => h.elim, fun h => h.elim, fun h => h.elim, fun h => h.elim, fun h => h.elim, fun h => h.elim⟩
          case step =>
            intro i o ho D a w' hI hn hcl hd
            obtain ⟨v46, v47, v48, v49, v50, v51, v52, v53, v54, v55, v56, v57, ha, hB, e0, e1, e2, e3, e4, e5, e6, e7, e8, e9, e10, hQ⟩ := hI
            match i, ho with
            | 0, ho =>
              cases Option.some.inj ho
              have ev : a.tmps[11]?.getD undef = .pointer (some ⟨vb, 0, none⟩) := by rw [ha]; kernel_rfl
              refine wp_value (w' := w') (v := .pointer (some ⟨vb, 0, none⟩)) (by simp [execOp, ev, go_sem]) ?_
              exact ⟨(.pointer (some ⟨vb, 0, none⟩)), v47, v48, v49, v50, v51, v52, v53, v54, v55, v56, v57, by rw [ha]; kernel_rfl, hB.imp_left .inr, fun _ => rfl, fun h => e1 (h.resolve_left (by decide)), fun h => e2 (h.resolve_left (by decide)), fun h => e3 (h.resolve_left (by decide)), fun h => e4 (h.resolve_left (by decide)), fun h => e5 (h.resolve_left (by decide)), fun h => e6 (h.resolve_left (by decide)), fun h => e7 (h.resolve_left (by decide)), fun h => e8 (h.resolve_left (by decide)), fun h => e9 (h.resolve_left (by decide)), fun h => e10 (h.resolve_left (by decide)), fun h => hQ (h.resolve_left (by decide))⟩
            | 1, ho =>
              cases Option.some.inj ho
              have ev : a.tmps[1]?.getD undef = .slice (some ⟨ab, ao, none⟩) an ac := by rw [ha]; kernel_rfl
              refine wp_value (w' := w') (v := .slice (some ⟨ab, ao, none⟩) an ac) (by simp [execOp, ev, go_sem]) ?_
              exact ⟨v46, (.slice (some ⟨ab, ao, none⟩) an ac), v48, v49, v50, v51, v52, v53, v54, v55, v56, v57, by rw [ha]; kernel_rfl, hB.imp_left .inr, fun h => e0 (h.resolve_left (by decide)), fun _ => rfl, fun h => e2 (h.resolve_left (by decide)), fun h => e3 (h.resolve_left (by decide)), fun h => e4 (h.resolve_left (by decide)), fun h => e5 (h.resolve_left (by decide)), fun h => e6 (h.resolve_left (by decide)), fun h => e7 (h.resolve_left (by decide)), fun h => e8 (h.resolve_left (by decide)), fun h => e9 (h.resolve_left (by decide)), fun h => e10 (h.resolve_left (by decide)), fun h => hQ (h.resolve_left (by decide))⟩
            | 2, ho =>
              cases Option.some.inj ho
              have ev : a.tmps[12]?.getD undef = .int .i64 (j : Int) := by rw [ha]; kernel_rfl
              refine wp_value (w' := w') (v := .int .i64 (j : Int)) (by simp [execOp, ev, go_sem]) ?_
              exact ⟨v46, v47, (.int .i64 (j : Int)), v49, v50, v51, v52, v53, v54, v55, v56, v57, by rw [ha]; kernel_rfl, hB.imp_left .inr, fun h => e0 (h.resolve_left (by decide)), fun h => e1 (h.resolve_left (by decide)), fun _ => rfl, fun h => e3 (h.resolve_left (by decide)), fun h => e4 (h.resolve_left (by decide)), fun h => e5 (h.resolve_left (by decide)), fun h => e6 (h.resolve_left (by decide)), fun h => e7 (h.resolve_left (by decide)), fun h => e8 (h.resolve_left (by decide)), fun h => e9 (h.resolve_left (by decide)), fun h => e10 (h.resolve_left (by decide)), fun h => hQ (h.resolve_left (by decide))⟩
            | 3, ho =>
              cases Option.some.inj ho
              have ev : a.tmps[47]?.getD undef = .slice (some ⟨ab, ao, none⟩) an ac := by rw [ha, e1 (hd ⟨1, .data⟩ (by simp) rfl)]; kernel_rfl
              have ev' : a.tmps[48]?.getD undef = .int .i64 (j : Int) := by rw [ha, e2 (hd ⟨2, .data⟩ (by simp) rfl)]; kernel_rfl
              refine wp_value (w' := w') (v := .pointer (some ⟨ab, ao + j * 7, none⟩)) (by simp [execOp, ev, ev', go_sem, hlt1]) ?_
              exact ⟨v46, v47, v48, (.pointer (some ⟨ab, ao + j * 7, none⟩)), v50, v51, v52, v53, v54, v55, v56, v57, by rw [ha]; kernel_rfl, hB.imp_left .inr, fun h => e0 (h.resolve_left (by decide)), fun h => e1 (h.resolve_left (by decide)), fun h => e2 (h.resolve_left (by decide)), fun _ => rfl, fun h => e4 (h.resolve_left (by decide)), fun h => e5 (h.resolve_left (by decide)), fun h => e6 (h.resolve_left (by decide)), fun h => e7 (h.resolve_left (by decide)), fun h => e8 (h.resolve_left (by decide)), fun h => e9 (h.resolve_left (by decide)), fun h => e10 (h.resolve_left (by decide)), fun h => hQ (h.resolve_left (by decide))⟩
            | 4, ho =>
              cases Option.some.inj ho
              have ev : a.tmps[49]?.getD undef = .pointer (some ⟨ab, ao + j * 7, none⟩) := by rw [ha, e3 (hd ⟨3, .data⟩ (by simp) rfl)]; kernel_rfl
              refine wp_value (w' := w') (v := .pointer (some ⟨ab, ao + j * 7 + 1, none⟩)) (by simp [execOp, ev, go_sem]) ?_
              exact ⟨v46, v47, v48, v49, (.pointer (some ⟨ab, ao + j * 7 + 1, none⟩)), v51, v52, v53, v54, v55, v56, v57, by rw [ha]; kernel_rfl, hB.imp_left .inr, fun h => e0 (h.resolve_left (by decide)), fun h => e1 (h.resolve_left (by decide)), fun h => e2 (h.resolve_left (by decide)), fun h => e3 (h.resolve_left (by decide)), fun _ => rfl, fun h => e5 (h.resolve_left (by decide)), fun h => e6 (h.resolve_left (by decide)), fun h => e7 (h.resolve_left (by decide)), fun h => e8 (h.resolve_left (by decide)), fun h => e9 (h.resolve_left (by decide)), fun h => e10 (h.resolve_left (by decide)), fun h => hQ (h.resolve_left (by decide))⟩
            | 5, ho =>
              cases Option.some.inj ho
              have ev : a.tmps[50]?.getD undef = .pointer (some ⟨ab, ao + j * 7 + 1, none⟩) := by rw [ha, e4 (hd ⟨4, .data⟩ (by simp) rfl)]; kernel_rfl
              have hb := hB.resolve_left (fun h => hn (hcl 11 _ rfl h ⟨5, .data⟩ (by simp) rfl))
              have q1 := (hb.cell (p := ⟨ab, ao + j * 7 + 1, none⟩) (lt_of_cell c1)).trans c1
              refine wp_value (w' := w') (v := .int .i64 m.oop) (by simp [execOp, ev, go_sem, q1]) ?_
              exact ⟨v46, v47, v48, v49, v50, (.int .i64 m.oop), v52, v53, v54, v55, v56, v57, by rw [ha]; kernel_rfl, hB.imp_left .inr, fun h => e0 (h.resolve_left (by decide)), fun h => e1 (h.resolve_left (by decide)), fun h => e2 (h.resolve_left (by decide)), fun h => e3 (h.resolve_left (by decide)), fun h => e4 (h.resolve_left (by decide)), fun _ => rfl, fun h => e6 (h.resolve_left (by decide)), fun h => e7 (h.resolve_left (by decide)), fun h => e8 (h.resolve_left (by decide)), fun h => e9 (h.resolve_left (by decide)), fun h => e10 (h.resolve_left (by decide)), fun h => hQ (h.resolve_left (by decide))⟩
            | 6, ho =>
              cases Option.some.inj ho
              have ev : a.tmps[1]?.getD undef = .slice (some ⟨ab, ao, none⟩) an ac := by rw [ha]; kernel_rfl
              refine wp_value (w' := w') (v := .slice (some ⟨ab, ao, none⟩) an ac) (by simp [execOp, ev, go_sem]) ?_
              exact ⟨v46, v47, v48, v49, v50, v51, (.slice (some ⟨ab, ao, none⟩) an ac), v53, v54, v55, v56, v57, by rw [ha]; kernel_rfl, hB.imp_left .inr, fun h => e0 (h.resolve_left (by decide)), fun h => e1 (h.resolve_left (by decide)), fun h => e2 (h.resolve_left (by decide)), fun h => e3 (h.resolve_left (by decide)), fun h => e4 (h.resolve_left (by decide)), fun h => e5 (h.resolve_left (by decide)), fun _ => rfl, fun h => e7 (h.resolve_left (by decide)), fun h => e8 (h.resolve_left (by decide)), fun h => e9 (h.resolve_left (by decide)), fun h => e10 (h.resolve_left (by decide)), fun h => hQ (h.resolve_left (by decide))⟩
            | 7, ho =>
              cases Option.some.inj ho
              have ev : a.tmps[12]?.getD undef = .int .i64 (j : Int) := by rw [ha]; kernel_rfl
              refine wp_value (w' := w') (v := .int .i64 (j : Int)) (by simp [execOp, ev, go_sem]) ?_
              exact ⟨v46, v47, v48, v49, v50, v51, v52, (.int .i64 (j : Int)), v54, v55, v56, v57, by rw [ha]; kernel_rfl, hB.imp_left .inr, fun h => e0 (h.resolve_left (by decide)), fun h => e1 (h.resolve_left (by decide)), fun h => e2 (h.resolve_left (by decide)), fun h => e3 (h.resolve_left (by decide)), fun h => e4 (h.resolve_left (by decide)), fun h => e5 (h.resolve_left (by decide)), fun h => e6 (h.resolve_left (by decide)), fun _ => rfl, fun h => e8 (h.resolve_left (by decide)), fun h => e9 (h.resolve_left (by decide)), fun h => e10 (h.resolve_left (by decide)), fun h => hQ (h.resolve_left (by decide))⟩
            | 8, ho =>
              cases Option.some.inj ho
              have ev : a.tmps[52]?.getD undef = .slice (some ⟨ab, ao, none⟩) an ac := by rw [ha, e6 (hd ⟨6, .data⟩ (by simp) rfl)]; kernel_rfl
              have ev' : a.tmps[53]?.getD undef = .int .i64 (j : Int) := by rw [ha, e7 (hd ⟨7, .data⟩ (by simp) rfl)]; kernel_rfl
              refine wp_value (w' := w') (v := .pointer (some ⟨ab, ao + j * 7, none⟩)) (by simp [execOp, ev, ev', go_sem, hlt1]) ?_
              exact ⟨v46, v47, v48, v49, v50, v51, v52, v53, (.pointer (some ⟨ab, ao + j * 7, none⟩)), v55, v56, v57, by rw [ha]; kernel_rfl, hB.imp_left .inr, fun h => e0 (h.resolve_left (by decide)), fun h => e1 (h.resolve_left (by decide)), fun h => e2 (h.resolve_left (by decide)), fun h => e3 (h.resolve_left (by decide)), fun h => e4 (h.resolve_left (by decide)), fun h => e5 (h.resolve_left (by decide)), fun h => e6 (h.resolve_left (by decide)), fun h => e7 (h.resolve_left (by decide)), fun _ => rfl, fun h => e9 (h.resolve_left (by decide)), fun h => e10 (h.resolve_left (by decide)), fun h => hQ (h.resolve_left (by decide))⟩
            | 9, ho =>
              cases Option.some.inj ho
              have ev : a.tmps[54]?.getD undef = .pointer (some ⟨ab, ao + j * 7, none⟩) := by rw [ha, e8 (hd ⟨8, .data⟩ (by simp) rfl)]; kernel_rfl
              refine wp_value (w' := w') (v := .pointer (some ⟨ab, ao + j * 7 + 2, none⟩)) (by simp [execOp, ev, go_sem]) ?_
              exact ⟨v46, v47, v48, v49, v50, v51, v52, v53, v54, (.pointer (some ⟨ab, ao + j * 7 + 2, none⟩)), v56, v57, by rw [ha]; kernel_rfl, hB.imp_left .inr, fun h => e0 (h.resolve_left (by decide)), fun h => e1 (h.resolve_left (by decide)), fun h => e2 (h.resolve_left (by decide)), fun h => e3 (h.resolve_left (by decide)), fun h => e4 (h.resolve_left (by decide)), fun h => e5 (h.resolve_left (by decide)), fun h => e6 (h.resolve_left (by decide)), fun h => e7 (h.resolve_left (by decide)), fun h => e8 (h.resolve_left (by decide)), fun _ => rfl, fun h => e10 (h.resolve_left (by decide)), fun h => hQ (h.resolve_left (by decide))⟩
            | 10, ho =>
              cases Option.some.inj ho
              have ev : a.tmps[55]?.getD undef = .pointer (some ⟨ab, ao + j * 7 + 2, none⟩) := by rw [ha, e9 (hd ⟨9, .data⟩ (by simp) rfl)]; kernel_rfl
              have hb := hB.resolve_left (fun h => hn (hcl 11 _ rfl h ⟨10, .data⟩ (by simp) rfl))
              have q2 := (hb.cell (p := ⟨ab, ao + j * 7 + 2, none⟩) (lt_of_cell c2)).trans c2
              have q3 := (hb.cell (p := ⟨ab, ao + j * 7 + 3, none⟩) (lt_of_cell c3)).trans c3
              have q4 := (hb.cell (p := ⟨ab, ao + j * 7 + 4, none⟩) (lt_of_cell c4)).trans c4
              refine wp_value (w' := w') (v := .agg #[.int .i64 m.o.cls, .slice m.sa m.sn m.sc, .slice m.ba m.bn m.bc]) (by simp [execOp, ev, go_sem, q2, q3, q4]) ?_
              exact ⟨v46, v47, v48, v49, v50, v51, v52, v53, v54, v55, (.agg #[.int .i64 m.o.cls, .slice m.sa m.sn m.sc, .slice m.ba m.bn m.bc]), v57, by rw [ha]; kernel_rfl, hB.imp_left .inr, fun h => e0 (h.resolve_left (by decide)), fun h => e1 (h.resolve_left (by decide)), fun h => e2 (h.resolve_left (by decide)), fun h => e3 (h.resolve_left (by decide)), fun h => e4 (h.resolve_left (by decide)), fun h => e5 (h.resolve_left (by decide)), fun h => e6 (h.resolve_left (by decide)), fun h => e7 (h.resolve_left (by decide)), fun h => e8 (h.resolve_left (by decide)), fun h => e9 (h.resolve_left (by decide)), fun _ => rfl, fun h => hQ (h.resolve_left (by decide))⟩
            | 11, ho =>
              cases Option.some.inj ho
              have ev : a.tmps[46]?.getD undef = .pointer (some ⟨vb, 0, none⟩) := by rw [ha, e0 (hd ⟨0, .data⟩ (by simp) rfl)]; kernel_rfl
              have ev' : a.tmps[51]?.getD undef = .int .i64 m.oop := by rw [ha, e5 (hd ⟨5, .data⟩ (by simp) rfl)]; kernel_rfl
              have ev'' : a.tmps[56]?.getD undef = .agg #[.int .i64 m.o.cls, .slice m.sa m.sn m.sc, .slice m.ba m.bn m.bc] := by rw [ha, e10 (hd ⟨10, .data⟩ (by simp) rfl)]; kernel_rfl
              have hb := hB.resolve_left hn
              refine wp_enter (f := 18) (args := #[.pointer (some ⟨vb, 0, none⟩), .int .i64 m.oop, .agg #[.int .i64 m.o.cls, .slice m.sa m.sn m.sc, .slice m.ba m.bn m.bc]]) (by simp [execOp, ev, ev', ev'', go_sem]) ?_
              refine (hv_put (hvr.below hb) m.oop hin.obj).mono ?_
              rintro e w6 ⟨rfl, hv4⟩
              refine ⟨_, rfl, ?_⟩
              exact ⟨v46, v47, v48, v49, v50, v51, v52, v53, v54, v55, v56, (.int .i64 (putE v T m.oop m.o)), by rw [ha]; kernel_rfl, .inl (.inl rfl), fun h => e0 (h.resolve_left (by decide)), fun h => e1 (h.resolve_left (by decide)), fun h => e2 (h.resolve_left (by decide)), fun h => e3 (h.resolve_left (by decide)), fun h => e4 (h.resolve_left (by decide)), fun h => e5 (h.resolve_left (by decide)), fun h => e6 (h.resolve_left (by decide)), fun h => e7 (h.resolve_left (by decide)), fun h => e8 (h.resolve_left (by decide)), fun h => e9 (h.resolve_left (by decide)), fun h => e10 (h.resolve_left (by decide)), fun _ => ⟨hv4, hvr.kyPut hky _ _⟩⟩
            | i + 12, ho => simp at ho
          case done =>
            rintro D a w' ⟨v46, v47, v48, v49, v50, v51, v52, v53, v54, v55, v56, v57, ha, hB, e0, e1, e2, e3, e4, e5, e6, e7, e8, e9, e10, hQ⟩ hall
            obtain rfl := e0 (hall 0 (by decide))
            obtain rfl := e1 (hall 1 (by decide))
            obtain rfl := e2 (hall 2 (by decide))
            obtain rfl := e3 (hall 3 (by decide))
            obtain rfl := e4 (hall 4 (by decide))
            obtain rfl := e5 (hall 5 (by decide))
            obtain rfl := e6 (hall 6 (by decide))
            obtain rfl := e7 (hall 7 (by decide))
            obtain rfl := e8 (hall 8 (by decide))
            obtain rfl := e9 (hall 9 (by decide))
            obtain rfl := e10 (hall 10 (by decide))
            have hQ1 := hQ (hall 11 (by decide))
            clear hQ hB hall e0 e1 e2 e3 e4 e5 e6 e7 e8 e9 e10
            rw [ha]
            clear ha
            simp only [Act.put, List.setIfInBounds_toArray, List.set_cons_zero, List.set_cons_succ]
            have d1 : w'.cell? ⟨ab, ao + j * 7 + 1, none⟩ = some (.int .i64 m.oop) := (hcell w' hQ1.1.belowW).2 1 _ rfl
            clear c0 c1 c2 c3 c4
            go_wp2_with fail
            refine (hv_read hQ1.1 m.oop).mono ?_
            rintro e w7 ⟨rfl, hv5⟩
            clear d1
            go_wp2
            go_roundw
            case rel => exact ⟨j + 1, _, by omega, by omega, by go_num, hv5, hQ1.2.read _⟩
            case measure => simp [intOf]; omega
        · clear hgo
          go_wp2_with fail
          refine (hv_make hvr hin.obj).mono ?_
          rintro e w6 ⟨rfl, hv4⟩
          have d1 : w6.cell? ⟨ab, ao + j * 7 + 1, none⟩ = some (.int .i64 m.oop) := (hcell w6 hv4.belowW).2 1 _ rfl
          clear c0 c1 c2 c3 c4
          go_wp2_with fail
          refine (hv_read hv4 m.oop).mono ?_
          rintro e w7 ⟨rfl, hv5⟩
          clear d1
          go_wp2
          go_roundw
          case rel => exact ⟨j + 1, _, by omega, by omega, by go_num, hv5, (hvr.kyMake hky _).read _⟩
          case measure => simp [intOf]; omega
      · have hgd : decide (j < an ∧ j < 30) = false := decide_eq_false hgo
        rw [hgd]
        clear hgo hgd
        generalize wc = wt at *
        go_wp2_with fail
        refine (hv_copy hvr).mono ?_
        rintro e w5 ⟨b2, rfl, hw, _⟩
        clear hvr
        go_wp2_with fail
        refine (hw_peek hw oop).mono ?_
        rintro e w6 ⟨pa, pn, pc, qa, qn, qc, rfl, oP, oQ, B6⟩
        have kcl := hw.cls oop
        obtain ⟨cR, hcR⟩ : ∃ q, Hid (clsR (peekR v T oop) = q) := ⟨_, rfl⟩
        obtain ⟨eR, heR⟩ : ∃ q, Hid (errR (peekR v T oop) = q) := ⟨_, rfl⟩
        obtain ⟨vR, hvR⟩ : ∃ q, Hid (vsR (peekR v T oop) = q) := ⟨_, rfl⟩
        obtain ⟨bR, hbR⟩ : ∃ q, Hid (bsR (peekR v T oop) = q) := ⟨_, rfl⟩
        rw [hvR.out] at oP
        rw [hbR.out] at oQ
        rw [hcR.out] at kcl
        rw [hcR.out, heR.out]
        have B7 : Below w6.heap.size w6 (w6.alloc (objB cR (.slice pa pn pc) (.slice qa qn qc))) := box_below
        have E14 := new1 w6 (objB cR (.slice pa pn pc) (.slice qa qn qc))
        have hw7 := (hw.below B6).below B7
        have oP7 := oP.below B7
        have oQ7 := oQ.below B7
        clear hw B6 B7 oP oQ
        unfold objB at E14 hw7 oP7 oQ7
        go_wp2_with fail
        generalize w6.alloc (.cells #[.int .i64 cR, .slice pa pn pc, .slice qa qn qc] 27) = w7 at *
        obtain ⟨b14, hb14⟩ : ∃ q, q = w6.heap.size := ⟨_, rfl⟩
        rw [← hb14] at E14 ⊢
        clear hb14
        replace E14 : w7.heap[b14]? = some (objB cR (.slice pa pn pc) (.slice qa qn qc)) := E14
        refine (hw_reads hw7 hky).mono ?_
        rintro e w8 ⟨ra, rn, rc, rfl, hrn0, oR, B8⟩
        have hrn : Hid (rn = (rdK v).length) := hrn0
        clear hrn0
        have hw8 := hw7.below B8
        have oP8 := oP7.below B8
        have oQ8 := oQ7.below B8
        have E8 := (B8.block b14 (lt_of_block E14)).trans E14
        clear hw7 oP7 oQ7 E14 B8
        go_wp2_with fail
        refine (hw_news hw8 hky).mono ?_
        rintro e w9 ⟨na, nn, nc, rfl, hnn0, oN, B9⟩
        have hnn : Hid (nn = (oopsL v 4097 8192).length) := hnn0
        clear hnn0
        have hw9 := hw8.below B9
        have oP9 := oP8.below B9
        have oQ9 := oQ8.below B9
        have E9 := (B9.block b14 (lt_of_block E8)).trans E8
        have oR9 := (KpV.below B9).own oR
        clear hw8 oP8 oQ8 E8 oR B9
        go_wp2_with fail
        go_loopw [18] (fun iv wz => ∃ (j : Nat) (v2 : Vw), j ≤ bn ∧ j ≤ 30 ∧ iv = .int .i64 (j : Int) ∧ Hw w w2 (fun _ => False) tb T vb v b2 v2 wz ∧ KpV w9 wz ∧ Hid (v2.base = v.base)) (fun iv _ => bn - (intOf iv).toNat)
        case atStart => exact ⟨0, v, by omega, by omega, rfl, hw9, KpV.refl _, rfl⟩
        case round =>
          clear hj1 hj2
          obtain ⟨j, v2, hj1, hj2, rfl, hz, kp, hbs⟩ := hrel
          clear hw9
          go_upto_region 19 with fail
          go_cut [93] from 86 to 127 (fun v wx => v = .bool (decide (j < bn ∧ j < 30)) ∧ wx = wr)
          case first =>
            by_cases h1 : j < bn
            · have hlt1 : (j : Int) < (bn : Int) := by omega
              by_cases h2 : j < 30
              · have hlt2 : (j : Int) < 30 := by omega
                go_wp2
                go_meet
                case rel => exact ⟨by simp [h1, h2], rfl⟩
              · have hlt2 : ¬ (j : Int) < 30 := by omega
                go_wp2
                go_meet
                case rel => exact ⟨by simp [h1, h2], rfl⟩
            · have hlt1 : ¬ (j : Int) < (bn : Int) := by omega
              go_wp2
              go_meet
              case rel => exact ⟨by simp [h1], rfl⟩
          case rest =>
            obtain ⟨rfl, rfl⟩ := hcut
            by_cases hgo : j < bn ∧ j < 30
            · have hgd : decide (j < bn ∧ j < 30) = true := decide_eq_true hgo
              rw [hgd]
              obtain ⟨hlt1, hlt2⟩ : (j : Int) < (bn : Int) ∧ (j : Int) < 30 := by omega
              obtain ⟨ab, ao, m, rfl, hin, hcell⟩ := (hbs_).at_ j hgo.1
              obtain ⟨hab, hc⟩ := hcell wc hz.belowW
              have c0 : wc.cell? ⟨ab, ao + j * 7, none⟩ = some (.int .i64 m.kind) := hc 0 _ rfl
              have c1 : wc.cell? ⟨ab, ao + j * 7 + 1, none⟩ = some (.int .i64 m.oop) := hc 1 _ rfl
              have c2 : wc.cell? ⟨ab, ao + j * 7 + 2, none⟩ = some (.int .i64 m.o.cls) := hc 2 _ rfl
              have c3 : wc.cell? ⟨ab, ao + j * 7 + 3, none⟩ = some (.slice m.sa m.sn m.sc) := hc 3 _ rfl
              have c4 : wc.cell? ⟨ab, ao + j * 7 + 4, none⟩ = some (.slice m.ba m.bn m.bc) := hc 4 _ rfl
              clear hc hgd
              by_cases hk6 : m.kind < 6
              · clear hgo
                go_upto_region 22 with fail
                refine wp_region_inv' (fun A D a w' => ∃ v102 v103 v104 v105 v106 v107 v108 v109 v110 v111 v112 v113, a = ((((((((((((A.put (some 102) v102).put (some 103) v103).put (some 104) v104).put (some 105) v105).put (some 106) v106).put (some 107) v107).put (some 108) v108).put (some 109) v109).put (some 110) v110).put (some 111) v111).put (some 112) v112).put (some 113) v113) ∧ (D 11 ∨ Below wc.heap.size wc w') ∧ (D 0 → v102 = .pointer (some ⟨b2, 0, none⟩)) ∧ (D 1 → v103 = .slice (some ⟨ab, ao, none⟩) bn bc) ∧ (D 2 → v104 = .int .i64 (j : Int)) ∧ (D 3 → v105 = .pointer (some ⟨ab, ao + j * 7, none⟩)) ∧ (D 4 → v106 = .pointer (some ⟨ab, ao + j * 7 + 1, none⟩)) ∧ (D 5 → v107 = .int .i64 m.oop) ∧ (D 6 → v108 = .slice (some ⟨ab, ao, none⟩) bn bc) ∧ (D 7 → v109 = .int .i64 (j : Int)) ∧ (D 8 → v110 = .pointer (some ⟨ab, ao + j * 7, none⟩)) ∧ (D 9 → v111 = .pointer (some ⟨ab, ao + j * 7 + 2, none⟩)) ∧ (D 10 → v112 = .agg #[.int .i64 m.o.cls, .slice m.sa m.sn m.sc, .slice m.ba m.bn m.bc]) ∧ (D 11 → Hw w w2 (fun _ => False) tb T b2 (putV v2 T m.oop m.o) vb v w' ∧ KpV w9 w')) (by kernel_rfl) (by kernel_rfl) ?mono ?start ?step ?done
                case mono =>
                  rintro D D' a w' hD ⟨v102, v103, v104, v105, v106, v107, v108, v109, v110, v111, v112, v113, ha, hB, e0, e1, e2, e3, e4, e5, e6, e7, e8, e9, e10, hQ⟩
                  exact ⟨v102, v103, v104, v105, v106, v107, v108, v109, v110, v111, v112, v113, ha, hB.imp_left (hD 11).1, fun h => e0 ((hD 0).2 h), fun h => e1 ((hD 1).2 h), fun h => e2 ((hD 2).2 h), fun h => e3 ((hD 3).2 h), fun h => e4 ((hD 4).2 h), fun h => e5 ((hD 5).2 h), fun h => e6 ((hD 6).2 h), fun h => e7 ((hD 7).2 h), fun h => e8 ((hD 8).2 h), fun h => e9 ((hD 9).2 h), fun h => e10 ((hD 10).2 h), fun h => hQ ((hD 11).2 h)⟩
                case start => exact ⟨u102, u103, u104, u105, u106, u107, u108, u109, u110, u111, u112, u113, by kernel_rfl, .inr ((Below.refl _ _).drew), fun h => h.elim, fun h => h.elim, fun h => h.elim, fun h => h.elim, fun h => h.elim, fun h => h.elim, fun h => h.elim, fun h => h.elim, fun h => h.elim, fun h => h.elim, fun h => h.elim, fun h => h.elim⟩
                case step =>
                  intro i o ho D a w' hI hn hcl hd
                  obtain ⟨v102, v103, v104, v105, v106, v107, v108, v109, v110, v111, v112, v113, ha, hB, e0, e1, e2, e3, e4, e5, e6, e7, e8, e9, e10, hQ⟩ := hI
                  match i, ho with
                  | 0, ho =>
                    cases Option.some.inj ho
                    have ev : a.tmps[13]?.getD undef = .pointer (some ⟨b2, 0, none⟩) := by rw [ha]; kernel_rfl
                    refine wp_value (w' := w') (v := .pointer (some ⟨b2, 0, none⟩)) (by simp [execOp, ev, go_sem]) ?_
                    exact ⟨(.pointer (some ⟨b2, 0, none⟩)), v103, v104, v105, v106, v107, v108, v109, v110, v111, v112, v113, by rw [ha]; kernel_rfl, hB.imp_left .inr, fun _ => rfl, fun h => e1 (h.resolve_left (by decide)), fun h => e2 (h.resolve_left (by decide)), fun h => e3 (h.resolve_left (by decide)), fun h => e4 (h.resolve_left (by decide)), fun h => e5 (h.resolve_left (by decide)), fun h => e6 (h.resolve_left (by decide)), fun h => e7 (h.resolve_left (by decide)), fun h => e8 (h.resolve_left (by decide)), fun h => e9 (h.resolve_left (by decide)), fun h => e10 (h.resolve_left (by decide)), fun h => hQ (h.resolve_left (by decide))⟩
                  | 1, ho =>
                    cases Option.some.inj ho
                    have ev : a.tmps[2]?.getD undef = .slice (some ⟨ab, ao, none⟩) bn bc := by rw [ha]; kernel_rfl
                    refine wp_value (w' := w') (v := .slice (some ⟨ab, ao, none⟩) bn bc) (by simp [execOp, ev, go_sem]) ?_
                    exact ⟨v102, (.slice (some ⟨ab, ao, none⟩) bn bc), v104, v105, v106, v107, v108, v109, v110, v111, v112, v113, by rw [ha]; kernel_rfl, hB.imp_left .inr, fun h => e0 (h.resolve_left (by decide)), fun _ => rfl, fun h => e2 (h.resolve_left (by decide)), fun h => e3 (h.resolve_left (by decide)), fun h => e4 (h.resolve_left (by decide)), fun h => e5 (h.resolve_left (by decide)), fun h => e6 (h.resolve_left (by decide)), fun h => e7 (h.resolve_left (by decide)), fun h => e8 (h.resolve_left (by decide)), fun h => e9 (h.resolve_left (by decide)), fun h => e10 (h.resolve_left (by decide)), fun h => hQ (h.resolve_left (by decide))⟩
                  | 2, ho =>
                    cases Option.some.inj ho
                    have ev : a.tmps[18]?.getD undef = .int .i64 (j : Int) := by rw [ha]; kernel_rfl
                    refine wp_value (w' := w') (v := .int .i64 (j : Int)) (by simp [execOp, ev, go_sem]) ?_
                    exact ⟨v102, v103, (.int .i64 (j : Int)), v105, v106, v107, v108, v109, v110, v111, v112, v113, by rw [ha]; kernel_rfl, hB.imp_left .inr, fun h => e0 (h.resolve_left (by decide)), fun h => e1 (h.resolve_left (by decide)), fun _ => rfl, fun h => e3 (h.resolve_left (by decide)), fun h => e4 (h.resolve_left (by decide)), fun h => e5 (h.resolve_left (by decide)), fun h => e6 (h.resolve_left (by decide)), fun h => e7 (h.resolve_left (by decide)), fun h => e8 (h.resolve_left (by decide)), fun h => e9 (h.resolve_left (by decide)), fun h => e10 (h.resolve_left (by decide)), fun h => hQ (h.resolve_left (by decide))⟩
                  | 3, ho =>
                    cases Option.some.inj ho
                    have ev : a.tmps[103]?.getD undef = .slice (some ⟨ab, ao, none⟩) bn bc := by rw [ha, e1 (hd ⟨1, .data⟩ (by simp) rfl)]; kernel_rfl
                    have ev' : a.tmps[104]?.getD undef = .int .i64 (j : Int) := by rw [ha, e2 (hd ⟨2, .data⟩ (by simp) rfl)]; kernel_rfl
                    refine wp_value (w' := w') (v := .pointer (some ⟨ab, ao + j * 7, none⟩)) (by simp [execOp, ev, ev', go_sem, hlt1]) ?_
                    exact ⟨v102, v103, v104, (.pointer (some ⟨ab, ao + j * 7, none⟩)), v106, v107, v108, v109, v110, v111, v112, v113, by rw [ha]; kernel_rfl, hB.imp_left .inr, fun h => e0 (h.resolve_left (by decide)), fun h => e1 (h.resolve_left (by decide)), fun h => e2 (h.resolve_left (by decide)), fun _ => rfl, fun h => e4 (h.resolve_left (by decide)), fun h => e5 (h.resolve_left (by decide)), fun h => e6 (h.resolve_left (by decide)), fun h => e7 (h.resolve_left (by decide)), fun h => e8 (h.resolve_left (by decide)), fun h => e9 (h.resolve_left (by decide)), fun h => e10 (h.resolve_left (by decide)), fun h => hQ (h.resolve_left (by decide))⟩
                  | 4, ho =>
                    cases Option.some.inj ho
                    have ev : a.tmps[105]?.getD undef = .pointer (some ⟨ab, ao + j * 7, none⟩) := by rw [ha, e3 (hd ⟨3, .data⟩ (by simp) rfl)]; kernel_rfl
                    refine wp_value (w' := w') (v := .pointer (some ⟨ab, ao + j * 7 + 1, none⟩)) (by simp [execOp, ev, go_sem]) ?_
                    exact ⟨v102, v103, v104, v105, (.pointer (some ⟨ab, ao + j * 7 + 1, none⟩)), v107, v108, v109, v110, v111, v112, v113, by rw [ha]; kernel_rfl, hB.imp_left .inr, fun h => e0 (h.resolve_left (by decide)), fun h => e1 (h.resolve_left (by decide)), fun h => e2 (h.resolve_left (by decide)), fun h => e3 (h.resolve_left (by decide)), fun _ => rfl, fun h => e5 (h.resolve_left (by decide)), fun h => e6 (h.resolve_left (by decide)), fun h => e7 (h.resolve_left (by decide)), fun h => e8 (h.resolve_left (by decide)), fun h => e9 (h.resolve_left (by decide)), fun h => e10 (h.resolve_left (by decide)), fun h => hQ (h.resolve_left (by decide))⟩
                  | 5, ho =>
                    cases Option.some.inj ho
                    have ev : a.tmps[106]?.getD undef = .pointer (some ⟨ab, ao + j * 7 + 1, none⟩) := by rw [ha, e4 (hd ⟨4, .data⟩ (by simp) rfl)]; kernel_rfl
                    have hb := hB.resolve_left (fun h => hn (hcl 11 _ rfl h ⟨5, .data⟩ (by simp) rfl))
                    have q1 := (hb.cell (p := ⟨ab, ao + j * 7 + 1, none⟩) (lt_of_cell c1)).trans c1
                    refine wp_value (w' := w') (v := .int .i64 m.oop) (by simp [execOp, ev, go_sem, q1]) ?_
                    exact ⟨v102, v103, v104, v105, v106, (.int .i64 m.oop), v108, v109, v110, v111, v112, v113, by rw [ha]; kernel_rfl, hB.imp_left .inr, fun h => e0 (h.resolve_left (by decide)), fun h => e1 (h.resolve_left (by decide)), fun h => e2 (h.resolve_left (by decide)), fun h => e3 (h.resolve_left (by decide)), fun h => e4 (h.resolve_left (by decide)), fun _ => rfl, fun h => e6 (h.resolve_left (by decide)), fun h => e7 (h.resolve_left (by decide)), fun h => e8 (h.resolve_left (by decide)), fun h => e9 (h.resolve_left (by decide)), fun h => e10 (h.resolve_left (by decide)), fun h => hQ (h.resolve_left (by decide))⟩
                  | 6, ho =>
                    cases Option.some.inj ho
                    have ev : a.tmps[2]?.getD undef = .slice (some ⟨ab, ao, none⟩) bn bc := by rw [ha]; kernel_rfl
                    refine wp_value (w' := w') (v := .slice (some ⟨ab, ao, none⟩) bn bc) (by simp [execOp, ev, go_sem]) ?_
                    exact ⟨v102, v103, v104, v105, v106, v107, (.slice (some ⟨ab, ao, none⟩) bn bc), v109, v110, v111, v112, v113, by rw [ha]; kernel_rfl, hB.imp_left .inr, fun h => e0 (h.resolve_left (by decide)), fun h => e1 (h.resolve_left (by decide)), fun h => e2 (h.resolve_left (by decide)), fun h => e3 (h.resolve_left (by decide)), fun h => e4 (h.resolve_left (by decide)), fun h => e5 (h.resolve_left (by decide)), fun _ => rfl, fun h => e7 (h.resolve_left (by decide)), fun h => e8 (h.resolve_left (by decide)), fun h => e9 (h.resolve_left (by decide)), fun h => e10 (h.resolve_left (by decide)), fun h => hQ (h.resolve_left (by decide))⟩
                  | 7, ho =>
                    cases Option.some.inj ho
                    have ev : a.tmps[18]?.getD undef = .int .i64 (j : Int) := by rw [ha]; kernel_rfl
                    refine wp_value (w' := w') (v := .int .i64 (j : Int)) (by simp [execOp, ev, go_sem]) ?_
                    exact ⟨v102, v103, v104, v105, v106, v107, v108, (.int .i64 (j : Int)), v110, v111, v112, v113, by rw [ha]; kernel_rfl, hB.imp_left .inr, fun h => e0 (h.resolve_left (by decide)), fun h => e1 (h.resolve_left (by decide)), fun h => e2 (h.resolve_left (by decide)), fun h => e3 (h.resolve_left (by decide)), fun h => e4 (h.resolve_left (by decide)), fun h => e5 (h.resolve_left (by decide)), fun h => e6 (h.resolve_left (by decide)), fun _ => rfl, fun h => e8 (h.resolve_left (by decide)), fun h => e9 (h.resolve_left (by decide)), fun h => e10 (h.resolve_left (by decide)), fun h => hQ (h.resolve_left (by decide))⟩
                  | 8, ho =>
                    cases Option.some.inj ho
                    have ev : a.tmps[108]?.getD undef = .slice (some ⟨ab, ao, none⟩) bn bc := by rw [ha, e6 (hd ⟨6, .data⟩ (by simp) rfl)]; kernel_rfl
                    have ev' : a.tmps[109]?.getD undef = .int .i64 (j : Int) := by rw [ha, e7 (hd ⟨7, .data⟩ (by simp) rfl)]; kernel_rfl
                    refine wp_value (w' := w') (v := .pointer (some ⟨ab, ao + j * 7, none⟩)) (by simp [execOp, ev, ev', go_sem, hlt1]) ?_
                    exact ⟨v102, v103, v104, v105, v106, v107, v108, v109, (.pointer (some ⟨ab, ao + j * 7, none⟩)), v111, v112, v113, by rw [ha]; kernel_rfl, hB.imp_left .inr, fun h => e0 (h.resolve_left (by decide)), fun h => e1 (h.resolve_left (by decide)), fun h => e2 (h.resolve_left (by decide)), fun h => e3 (h.resolve_left (by decide)), fun h => e4 (h.resolve_left (by decide)), fun h => e5 (h.resolve_left (by decide)), fun h => e6 (h.resolve_left (by decide)), fun h => e7 (h.resolve_left (by decide)), fun _ => rfl, fun h => e9 (h.resolve_left (by decide)), fun h => e10 (h.resolve_left (by decide)), fun h => hQ (h.resolve_left (by decide))⟩
                  | 9, ho =>
                    cases Option.some.inj ho
                    have ev : a.tmps[110]?.getD undef = .pointer (some ⟨ab, ao + j * 7, none⟩) := by rw [ha, e8 (hd ⟨8, .data⟩ (by simp) rfl)]; kernel_rfl
                    refine wp_value (w' := w') (v := .pointer (some ⟨ab, ao + j * 7 + 2, none⟩)) (by simp [execOp, ev, go_sem]) ?_
                    exact ⟨v102, v103, v104, v105, v106, v107, v108, v109, v110, (.pointer (some ⟨ab, ao + j * 7 + 2, none⟩)), v112, v113, by rw [ha]; kernel_rfl, hB.imp_left .inr, fun h => e0 (h.resolve_left (by decide)), fun h => e1 (h.resolve_left (by decide)), fun h => e2 (h.resolve_left (by decide)), fun h => e3 (h.resolve_left (by decide)), fun h => e4 (h.resolve_left (by decide)), fun h => e5 (h.resolve_left (by decide)), fun h => e6 (h.resolve_left (by decide)), fun h => e7 (h.resolve_left (by decide)), fun h => e8 (h.resolve_left (by decide)), fun _ => rfl, fun h => e10 (h.resolve_left (by decide)), fun h => hQ (h.resolve_left (by decide))⟩
                  | 10, ho =>
                    cases Option.some.inj ho
                    have ev : a.tmps[111]?.getD undef = .pointer (some ⟨ab, ao + j * 7 + 2, none⟩) := by rw [ha, e9 (hd ⟨9, .data⟩ (by simp) rfl)]; kernel_rfl
                    have hb := hB.resolve_left (fun h => hn (hcl 11 _ rfl h ⟨10, .data⟩ (by simp) rfl))
                    have q2 := (hb.cell (p := ⟨ab, ao + j * 7 + 2, none⟩) (lt_of_cell c2)).trans c2
                    have q3 := (hb.cell (p := ⟨ab, ao + j * 7 + 3, none⟩) (lt_of_cell c3)).trans c3
                    have q4 := (hb.cell (p := ⟨ab, ao + j * 7 + 4, none⟩) (lt_of_cell c4)).trans c4
                    refine wp_value (w' := w') (v := .agg #[.int .i64 m.o.cls, .slice m.sa m.sn m.sc, .slice m.ba m.bn m.bc]) (by simp [execOp, ev, go_sem, q2, q3, q4]) ?_
                    exact ⟨v102, v103, v104, v105, v106, v107, v108, v109, v110, v111, (.agg #[.int .i64 m.o.cls, .slice m.sa m.sn m.sc, .slice m.ba m.bn m.bc]), v113, by rw [ha]; kernel_rfl, hB.imp_left .inr, fun h => e0 (h.resolve_left (by decide)), fun h => e1 (h.resolve_left (by decide)), fun h => e2 (h.resolve_left (by decide)), fun h => e3 (h.resolve_left (by decide)), fun h => e4 (h.resolve_left (by decide)), fun h => e5 (h.resolve_left (by decide)), fun h => e6 (h.resolve_left (by decide)), fun h => e7 (h.resolve_left (by decide)), fun h => e8 (h.resolve_left (by decide)), fun h => e9 (h.resolve_left (by decide)), fun _ => rfl, fun h => hQ (h.resolve_left (by decide))⟩
                  | 11, ho =>
                    cases Option.some.inj ho
                    have ev : a.tmps[102]?.getD undef = .pointer (some ⟨b2, 0, none⟩) := by rw [ha, e0 (hd ⟨0, .data⟩ (by simp) rfl)]; kernel_rfl
                    have ev' : a.tmps[107]?.getD undef = .int .i64 m.oop := by rw [ha, e5 (hd ⟨5, .data⟩ (by simp) rfl)]; kernel_rfl
                    have ev'' : a.tmps[112]?.getD undef = .agg #[.int .i64 m.o.cls, .slice m.sa m.sn m.sc, .slice m.ba m.bn m.bc] := by rw [ha, e10 (hd ⟨10, .data⟩ (by simp) rfl)]; kernel_rfl
                    have hb := hB.resolve_left hn
                    refine wp_enter (f := 18) (args := #[.pointer (some ⟨b2, 0, none⟩), .int .i64 m.oop, .agg #[.int .i64 m.o.cls, .slice m.sa m.sn m.sc, .slice m.ba m.bn m.bc]]) (by simp [execOp, ev, ev', ev'', go_sem]) ?_
                    refine (hw_putK (hz.below hb).swap m.oop hin.obj).mono ?_
                    rintro e w6 ⟨rfl, hv4, K4⟩
                    refine ⟨_, rfl, ?_⟩
                    exact ⟨v102, v103, v104, v105, v106, v107, v108, v109, v110, v111, v112, (.int .i64 (putE v2 T m.oop m.o)), by rw [ha]; kernel_rfl, .inl (.inl rfl), fun h => e0 (h.resolve_left (by decide)), fun h => e1 (h.resolve_left (by decide)), fun h => e2 (h.resolve_left (by decide)), fun h => e3 (h.resolve_left (by decide)), fun h => e4 (h.resolve_left (by decide)), fun h => e5 (h.resolve_left (by decide)), fun h => e6 (h.resolve_left (by decide)), fun h => e7 (h.resolve_left (by decide)), fun h => e8 (h.resolve_left (by decide)), fun h => e9 (h.resolve_left (by decide)), fun h => e10 (h.resolve_left (by decide)), fun _ => ⟨hv4, (kp.trans (KpV.below hb)).trans K4⟩⟩
                  | i + 12, ho => simp at ho
                case done =>
                  rintro D a w' ⟨v102, v103, v104, v105, v106, v107, v108, v109, v110, v111, v112, v113, ha, hB, e0, e1, e2, e3, e4, e5, e6, e7, e8, e9, e10, hQ⟩ hall
                  obtain rfl := e0 (hall 0 (by decide))
                  obtain rfl := e1 (hall 1 (by decide))
                  obtain rfl := e2 (hall 2 (by decide))
                  obtain rfl := e3 (hall 3 (by decide))
                  obtain rfl := e4 (hall 4 (by decide))
                  obtain rfl := e5 (hall 5 (by decide))
                  obtain rfl := e6 (hall 6 (by decide))
                  obtain rfl := e7 (hall 7 (by decide))
                  obtain rfl := e8 (hall 8 (by decide))
                  obtain rfl := e9 (hall 9 (by decide))
                  obtain rfl := e10 (hall 10 (by decide))
                  have hQ1 := hQ (hall 11 (by decide))
                  clear hQ hB hall e0 e1 e2 e3 e4 e5 e6 e7 e8 e9 e10
                  rw [ha]
                  clear ha
                  simp only [Act.put, List.setIfInBounds_toArray, List.set_cons_zero, List.set_cons_succ]
                  have d1 : w'.cell? ⟨ab, ao + j * 7 + 1, none⟩ = some (.int .i64 m.oop) := (hcell w' hQ1.1.belowW).2 1 _ rfl
                  clear c0 c1 c2 c3 c4
                  go_wp2_with fail
                  refine (hw_readK hQ1.1 m.oop).mono ?_
                  rintro e w7 ⟨rfl, hv5, K5⟩
                  clear d1
                  go_wp2
                  go_roundw
                  case rel => exact ⟨j + 1, _, by omega, by omega, by go_num, hv5.swap, hQ1.2.trans K5, base_rp hbs T _ _ _⟩
                  case measure => simp [intOf]; omega
              · clear hgo
                go_wp2_with fail
                refine (hw_makeK hz.swap hin.obj).mono ?_
                rintro e w6 ⟨rfl, hv4, K4⟩
                have d1 : w6.cell? ⟨ab, ao + j * 7 + 1, none⟩ = some (.int .i64 m.oop) := (hcell w6 hv4.belowW).2 1 _ rfl
                clear c0 c1 c2 c3 c4
                go_wp2_with fail
                refine (hw_readK hv4 m.oop).mono ?_
                rintro e w7 ⟨rfl, hv5, K5⟩
                clear d1
                go_wp2
                go_roundw
                case rel => exact ⟨j + 1, _, by omega, by omega, by go_num, hv5.swap, (kp.trans K4).trans K5, base_rm hbs _ _⟩
                case measure => simp [intOf]; omega
            · have hgd : decide (j < bn ∧ j < 30) = false := decide_eq_false hgo
              rw [hgd]
              clear hgo hgd
              generalize wc = wt at *
              have oPz := kp.ownV oP9
              have oQz := kp.ownB oQ9
              have oRz := kp.own oR9
              have oNz := kp.own oN
              have Ez := kp.obj E9
              clear oP9 oQ9 oR9 oN E9 kp
              go_wp2_with fail
              refine (hw_peek hz oop).mono ?_
              rintro e w11 ⟨ga, gn, gc, da, dn, dc, rfl, oG, oD, B11⟩
              rw [hvR.out] at oG
              rw [hbR.out] at oD
              rw [hcR.out, heR.out]
              have B12 : Below w11.heap.size w11 (w11.alloc (objB cR (.slice ga gn gc) (.slice da dn dc))) := box_below
              have E19 := new1 w11 (objB cR (.slice ga gn gc) (.slice da dn dc))
              have K12 : KpV wt (w11.alloc (objB cR (.slice ga gn gc) (.slice da dn dc))) := (KpV.below B11).trans (KpV.below B12)
              have hw12 := (hz.below B11).below B12
              have oP12 := K12.ownV oPz
              have oQ12 := K12.ownB oQz
              have oG12 := oG.below B12
              have oD12 := oD.below B12
              have oR12 := K12.own oRz
              have oN12 := K12.own oNz
              have E12 := K12.obj Ez
              clear hz oPz oQz oG oD oRz oNz Ez B11 B12 K12
              obtain ⟨x0, x1, x2, _⟩ := obj_cells E12
              obtain ⟨y0, y1, y2, _⟩ := obj_cells E19
              unfold objB at hw12 oP12 oQ12 oG12 oD12 oR12 oN12 x0 x1 x2 y0 y1 y2
              clear E12 E19
              go_wp2_with fail
              generalize w11.alloc (.cells #[.int .i64 cR, .slice ga gn gc, .slice da dn dc] 27) = w12 at *
              clear x0 x1 x2 y0 y1 y2
              refine (rsame_any ⟨kcl, oP12.isV, oQ12.isB⟩ ⟨kcl, oG12.isV, oD12.isB⟩).mono ?_
              rintro e w13 ⟨rfl, B13⟩
              rw [alike_yes']
              have hw13 := hw12.below B13
              have oR13 := (KpV.below B13).own oR12
              have oN13 := (KpV.below B13).own oN12
              clear hw12 oP12 oQ12 oG12 oD12 oR12 oN12 B13
              go_wp2_with fail
              refine (hw_reads hw13 hky).mono ?_
              rintro e w14 ⟨ra2, rn2, rc2, rfl, hrn2, oR2, B14⟩
              obtain rfl : rn2 = rn := hrn2.trans hrn.out.symm
              clear hrn2
              have r4 : rn2 ≤ 8192 := by rw [hrn.out]; exact len8 _
              have hw14 := hw13.below B14
              have oR14 := (KpV.below B14).own oR13
              have oN14 := (KpV.below B14).own oN13
              clear hw13 oR13 oN13 B14
              go_wp2_with fail
              refine (lsame_yes oR14 oR2 hrn.out r4).mono ?_
              rintro e w15 ⟨rfl, B15⟩
              have hw15 := hw14.below B15
              have oN15 := (KpV.below B15).own oN14
              clear hw14 oR14 oR2 oN14 B15
              go_wp2_with fail
              refine (hw_news hw15 hky).mono ?_
              rintro e w16 ⟨na2, nn2, nc2, rfl, hnn2, oN2, B16⟩
              obtain rfl : nn2 = nn := hnn2.trans hnn.out.symm
              clear hnn2
              have s4 : nn2 ≤ 8192 := by rw [hnn.out]; exact Nat.le_trans (List.length_filter_le _ _) (len8 _)
              have hw16 := hw15.below B16
              have oN16 := (KpV.below B16).own oN15
              clear hw15 oN15 B16
              go_wp2_with fail
              refine (lsame_yes oN16 oN2 hnn.out s4).mono ?_
              rintro e w17 ⟨rfl, B17⟩
              have hw17 := hw16.below B17
              clear hw16 oN16 oN2 B17
              go_wp2_with fail
              refine (hw_base hw17.swap).mono ?_
              rintro e w18 ⟨rfl, rfl⟩
              rw [hbs.out]
              go_wp2_with fail
              refine (hw_base hw17).mono ?_
              rintro e w19 ⟨rfl, rfl⟩
              have fin := hw17.belowW
              clear hw17
              go_wp2_with fail
              refine (known_true _).mono ?_
              rintro e wk ⟨rfl, BK⟩
              have fin2 := below_size fin fin.size BK
              go_wp2
              go_ret
              exact ⟨rfl, fin2⟩
end Go.Proofs.Yteomolihandfnaa
