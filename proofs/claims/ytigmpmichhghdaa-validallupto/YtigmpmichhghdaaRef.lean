/- The document's answer: among, clash, within. -/
import Derived.Test.YtigmpmichhghdaaRow
import Derived.Deep.RegionWith
namespace Go.Proofs.Ytigmpmichhghdaa
open Go.RowKit
set_option maxRecDepth 100000
set_option maxHeartbeats 1000000 in
theorem among_any {w : World} {a : Option Addr} {n c : Nat} {l : List Int} (x : Int) (h : IsI w a n c l) (hn : n ≤ 1048576000) :
    Calls Try.prog 51 #[.int .i64 x, .slice a n c] w fun e w' => e = .returned (.bool (decide (x ∈ l))) ∧ w' = w := by
  have hsz : Hid (l.length = n) := h.size
  have hnI : n ≤ 9223372036854775807 := by omega
  go_enter Try.func51, Try.ntmps51
  go_wp2
  go_loopw [5] (fun iv wr => ∃ k : Nat, k ≤ n ∧ iv = .int .i64 (k : Int) ∧ Hid (∀ y ∈ l.take k, ¬ y = x) ∧ w = wr) (fun iv _ => n - (intOf iv).toNat)
  case atStart => exact ⟨0, by omega, rfl, fun y hy => by simp at hy, rfl⟩
  case round =>
    obtain ⟨k, hk, rfl, hno, rfl⟩ := hrel
    by_cases hlt : k < n
    · obtain ⟨b, off, y, rfl, _, cy, hy, _⟩ := h.at_ k hlt
      have hkI : (k : Int) < (n : Int) := by omega
      by_cases hyx : y = x
      · have hin : Hid (decide (x ∈ l) = true) := by unfold Hid; rw [decide_eq_true_eq, ← hyx]; exact List.mem_of_getElem? hy.out
        subst hyx
        clear hy hno
        go_wp2
        go_ret
        exact ⟨by rw [hin.out]; rfl, rfl⟩
      · have hyx' : (y == x) = false := by simpa using hyx
        go_wp2
        go_roundw
        case rel =>
          refine ⟨k + 1, by omega, by go_num, fun z hz => ?_, trivial⟩
          rw [take_at hy.out] at hz
          rcases List.mem_append.1 hz with hz | hz
          · exact hno.out z hz
          · rw [List.mem_singleton] at hz; subst hz; exact hyx
        case measure => simp [intOf]; omega
    · have hge : ¬ (k : Int) < (n : Int) := by omega
      have hout : Hid (decide (x ∈ l) = false) := by
        unfold Hid
        rw [decide_eq_false_iff_not]
        intro hx
        have := hno.out
        rw [List.take_of_length_le (by rw [hsz.out]; omega)] at this
        exact this x hx rfl
      clear hno
      go_wp2
      go_ret
      exact ⟨by rw [hout.out]; rfl, rfl⟩
/-- The least one of those so far that hold. -/
def LsI (p : Int → Bool) (l : List Int) (k : Nat) (z : Int) (b : Bool) : Prop := z = (leastO ((l.take k).filter p)).getD 0 ∧ b = (leastO ((l.take k).filter p)).isSome
theorem leastO_snoc (l : List Int) (x : Int) : leastO (l ++ [x]) = comb (leastO l) (some x) := by
  cases l with
  | nil => rfl
  | cons y r => show some (minL y (r ++ [x])) = some (min (minL y r) x); rw [minL_snoc]
theorem LsI.start {p : Int → Bool} {l : List Int} : LsI p l 0 0 false := ⟨rfl, rfl⟩
theorem LsI.no {p : Int → Bool} {l : List Int} {k : Nat} {z x : Int} {b : Bool} (h : LsI p l k z b) (hx : l[k]? = some x) (hp : p x = false) : LsI p l (k + 1) z b := by
  unfold LsI at h ⊢
  rw [filter_no hx hp]
  exact h
theorem LsI.first {p : Int → Bool} {l : List Int} {k : Nat} {z x : Int} (h : LsI p l k z false) (hx : l[k]? = some x) (hp : p x = true) : LsI p l (k + 1) x true := by
  unfold LsI at h ⊢
  rw [filter_yes hx hp, leastO_snoc]
  cases hc : leastO ((l.take k).filter p) with
  | none => exact ⟨rfl, rfl⟩
  | some y => rw [hc] at h; exact absurd h.2 (by simp)
theorem LsI.less {p : Int → Bool} {l : List Int} {k : Nat} {z x : Int} (h : LsI p l k z true) (hx : l[k]? = some x) (hp : p x = true) (hq : x < z) : LsI p l (k + 1) x true := by
  unfold LsI at h ⊢
  rw [filter_yes hx hp, leastO_snoc]
  cases hc : leastO ((l.take k).filter p) with
  | none => rw [hc] at h; exact absurd h.2 (by simp)
  | some y =>
    rw [hc] at h
    have e : z = y := h.1
    exact ⟨by show x = min y x; omega, rfl⟩
theorem LsI.more {p : Int → Bool} {l : List Int} {k : Nat} {z x : Int} (h : LsI p l k z true) (hx : l[k]? = some x) (hp : p x = true) (hq : ¬ x < z) : LsI p l (k + 1) z true := by
  unfold LsI at h ⊢
  rw [filter_yes hx hp, leastO_snoc]
  cases hc : leastO ((l.take k).filter p) with
  | none => rw [hc] at h; exact absurd h.2 (by simp)
  | some y =>
    rw [hc] at h
    have e : z = y := h.1
    exact ⟨by show z = min y x; omega, rfl⟩
theorem amq {w : World} {j : Nat} {a : Option Addr} {n c : Nat} {l : List Int} {x : Int} {q : Bool} (hn : n ≤ 1048576000) (h : IsI (w.drewN j) a n c l) (hq : decide (x ∈ l) = q) :
    Calls Try.prog 51 #[.int .i64 x, .slice a n c] (w.drewN j) fun e w' => e = .returned (.bool q) ∧ w' = w.drewN j := by
  subst hq
  exact among_any x h hn
/-- Did one read or write an object? -/
def inT (m : Tm) (o : Int) : Bool := decide (o ∈ m.rs) || decide (o ∈ m.ws)
set_option maxHeartbeats 4000000 in
theorem clash_any {w : World} {ka : Option Addr} {kn kc : Nat} {ks : List Int} {m : Tm} (hk : IsI w ka kn kc ks) (hm : m.In w) (hkn : kn ≤ 1048576) (hmr : m.rn ≤ 1048576) (hmw : m.wn ≤ 1048576) :
    Calls Try.prog 43 #[.slice ka kn kc, .agg #[.int .i64 m.base, .int .i64 m.com, .slice m.ra m.rn m.rc, .slice m.wa m.wn m.wc]] w fun e w' => e = .returned (.tuple #[.int .i64 ((leastO (ks.filter (inT m))).getD 0), .bool (leastO (ks.filter (inT m))).isSome]) ∧ Below w.heap.size w w' := by
  have B1 : Below w.heap.size w (w.alloc (txB m 25)) := box_below
  have E1 : (w.alloc (txB m 25)).heap[w.heap.size]? = some (txB m 25) := new1 _ _
  have hin1 := hm.below B1
  have hk1 := hk.below B1
  have hsz : Hid (ks.length = kn) := hk.size
  have hnI : kn ≤ 9223372036854775807 := by omega
  obtain ⟨r0, hr0⟩ : ∃ r0, Hid (leastO (ks.filter (inT m)) = r0) := ⟨_, rfl⟩
  rw [hr0.out]
  go_enter Try.func43, Try.ntmps43
  go_wp2_with fail
  unfold txB at B1 E1 hin1 hk1
  generalize w.alloc (.cells #[.int .i64 m.base, .int .i64 m.com, .slice m.ra m.rn m.rc, .slice m.wa m.wn m.wc] 25) = w1 at *
  have hwl1 := lt_of_block E1
  clear hk hm
  go_loopw [6, 7, 8] (fun bv av iv wr => ∃ (k : Nat) (z : Int) (bb : Bool), k ≤ kn ∧ iv = .int .i64 (k : Int) ∧ bv = .int .i64 z ∧ av = .bool bb ∧ LsI (inT m) ks k z bb ∧ Below w1.heap.size w1 wr) (fun _ _ iv _ => kn - (intOf iv).toNat)
  case atStart => exact ⟨0, 0, false, by omega, rfl, rfl, rfl, LsI.start, Below.refl _ _⟩
  case round =>
    obtain ⟨k, z, bb, hkk, rfl, rfl, rfl, hls, B⟩ := hrel
    have E2 := (B.block _ hwl1).trans E1
    obtain ⟨y0, y1, y2, y3, _⟩ := tx_cells (m := m) (t := 25) E2
    have B5 : Below w.heap.size w wr := B1.trans (B.mono B1.size)
    by_cases hlt : k < kn
    · obtain ⟨b, off, x, rfl, _, cx, hx, _⟩ := (hk1.below B).at_ k hlt
      have hkI : (k : Int) < (kn : Int) := by omega
      have hR : ∀ j, IsI (wr.drewN j) m.ra m.rn m.rc m.rs := fun j => (hin1.below B).r.1.drewN j
      have hW : ∀ j, IsI (wr.drewN j) m.wa m.wn m.wc m.ws := fun j => (hin1.below B).w.1.drewN j
      have hmr' : m.rn ≤ 1048576000 := by omega
      have hmw' : m.wn ≤ 1048576000 := by omega
      clear y0 y1 E2
      by_cases hd1' : x ∈ m.rs
      · have hd1 : Hid (decide (x ∈ m.rs) = true) := decide_eq_true hd1'
        have hp : inT m x = true := by unfold inT; rw [hd1.out]; rfl
        have cR : ∀ j, Calls Try.prog 51 #[.int .i64 x, .slice m.ra m.rn m.rc] (wr.drewN j) fun e w' => e = .returned (.bool true) ∧ w' = wr.drewN j := fun j => amq hmr' (hR j) hd1.out
        have cW := cR
        clear hd1' hR hW
        cases bb with
        | false =>
          have hnx := hls.first hx.out hp
          clear hls hx hp
          go_upto_region 6 with fail
          go_quiet (first | (go_at_call_of 51 (Value.slice m.ra m.rn m.rc); exact Calls.quiet_of_same (cR _)) | (go_at_call_of 51 (Value.slice m.wa m.wn m.wc); exact Calls.quiet_of_same (cW _)))
          go_wp2
          go_roundw
          case rel => exact ⟨k + 1, x, true, by omega, by go_num, rfl, rfl, hnx, below_drewN' B _⟩
          case measure => simp [intOf]; omega
        | true =>
          by_cases hz : x < z
          · have hzd : decide (x < z) = true := decide_eq_true hz
            have hnx := hls.less hx.out hp hz
            clear hls hx hp
            go_upto_region 6 with fail
            go_quiet (first | (go_at_call_of 51 (Value.slice m.ra m.rn m.rc); exact Calls.quiet_of_same (cR _)) | (go_at_call_of 51 (Value.slice m.wa m.wn m.wc); exact Calls.quiet_of_same (cW _)))
            go_wp2
            go_roundw
            case rel => exact ⟨k + 1, x, true, by omega, by go_num, rfl, rfl, hnx, below_drewN' B _⟩
            case measure => simp [intOf]; omega
          · have hzd : decide (x < z) = false := decide_eq_false hz
            have hnx := hls.more hx.out hp hz
            clear hls hx hp
            go_upto_region 6 with fail
            go_quiet (first | (go_at_call_of 51 (Value.slice m.ra m.rn m.rc); exact Calls.quiet_of_same (cR _)) | (go_at_call_of 51 (Value.slice m.wa m.wn m.wc); exact Calls.quiet_of_same (cW _)))
            go_wp2
            go_roundw
            case rel => exact ⟨k + 1, z, true, by omega, by go_num, rfl, rfl, hnx, below_drewN' B _⟩
            case measure => simp [intOf]; omega
      · have hd1 : Hid (decide (x ∈ m.rs) = false) := decide_eq_false hd1'
        clear hd1'
        by_cases hd2' : x ∈ m.ws
        · have hd2 : Hid (decide (x ∈ m.ws) = true) := decide_eq_true hd2'
          have hp : inT m x = true := by unfold inT; rw [hd1.out, hd2.out]; rfl
          have cR : ∀ j, Calls Try.prog 51 #[.int .i64 x, .slice m.ra m.rn m.rc] (wr.drewN j) fun e w' => e = .returned (.bool false) ∧ w' = wr.drewN j := fun j => amq hmr' (hR j) hd1.out
          have cW : ∀ j, Calls Try.prog 51 #[.int .i64 x, .slice m.wa m.wn m.wc] (wr.drewN j) fun e w' => e = .returned (.bool true) ∧ w' = wr.drewN j := fun j => amq hmw' (hW j) hd2.out
          clear hd2' hR hW
          cases bb with
          | false =>
            have hnx := hls.first hx.out hp
            clear hls hx hp
            go_upto_region 6 with fail
            go_quiet (first | (go_at_call_of 51 (Value.slice m.ra m.rn m.rc); exact Calls.quiet_of_same (cR _)) | (go_at_call_of 51 (Value.slice m.wa m.wn m.wc); exact Calls.quiet_of_same (cW _)))
            go_wp2
            go_roundw
            case rel => exact ⟨k + 1, x, true, by omega, by go_num, rfl, rfl, hnx, below_drewN' B _⟩
            case measure => simp [intOf]; omega
          | true =>
            by_cases hz : x < z
            · have hzd : decide (x < z) = true := decide_eq_true hz
              have hnx := hls.less hx.out hp hz
              clear hls hx hp
              go_upto_region 6 with fail
              go_quiet (first | (go_at_call_of 51 (Value.slice m.ra m.rn m.rc); exact Calls.quiet_of_same (cR _)) | (go_at_call_of 51 (Value.slice m.wa m.wn m.wc); exact Calls.quiet_of_same (cW _)))
              go_wp2
              go_roundw
              case rel => exact ⟨k + 1, x, true, by omega, by go_num, rfl, rfl, hnx, below_drewN' B _⟩
              case measure => simp [intOf]; omega
            · have hzd : decide (x < z) = false := decide_eq_false hz
              have hnx := hls.more hx.out hp hz
              clear hls hx hp
              go_upto_region 6 with fail
              go_quiet (first | (go_at_call_of 51 (Value.slice m.ra m.rn m.rc); exact Calls.quiet_of_same (cR _)) | (go_at_call_of 51 (Value.slice m.wa m.wn m.wc); exact Calls.quiet_of_same (cW _)))
              go_wp2
              go_roundw
              case rel => exact ⟨k + 1, z, true, by omega, by go_num, rfl, rfl, hnx, below_drewN' B _⟩
              case measure => simp [intOf]; omega
        · have hd2 : Hid (decide (x ∈ m.ws) = false) := decide_eq_false hd2'
          have hp : inT m x = false := by unfold inT; rw [hd1.out, hd2.out]; rfl
          have cR : ∀ j, Calls Try.prog 51 #[.int .i64 x, .slice m.ra m.rn m.rc] (wr.drewN j) fun e w' => e = .returned (.bool false) ∧ w' = wr.drewN j := fun j => amq hmr' (hR j) hd1.out
          have cW : ∀ j, Calls Try.prog 51 #[.int .i64 x, .slice m.wa m.wn m.wc] (wr.drewN j) fun e w' => e = .returned (.bool false) ∧ w' = wr.drewN j := fun j => amq hmw' (hW j) hd2.out
          clear hd2' hR hW
          have hnx := hls.no hx.out hp
          clear hls hx hp
          go_upto_region 6 with fail
          go_quiet (first | (go_at_call_of 51 (Value.slice m.ra m.rn m.rc); exact Calls.quiet_of_same (cR _)) | (go_at_call_of 51 (Value.slice m.wa m.wn m.wc); exact Calls.quiet_of_same (cW _)))
          go_wp2
          go_roundw
          case rel => exact ⟨k + 1, z, bb, by omega, by go_num, rfl, rfl, hnx, below_drewN' B _⟩
          case measure => simp [intOf]; omega
    · have hge : ¬ (k : Int) < (kn : Int) := by omega
      have hfin : Hid (r0.getD 0 = z ∧ r0.isSome = bb) := by
        unfold LsI at hls
        rw [List.take_of_length_le (by rw [hsz.out]; omega), hr0.out] at hls
        exact ⟨hls.1.symm, hls.2.symm⟩
      clear hls
      go_wp2
      refine bodyPost_ret (results_tmp2 rfl _ _ _) rfl ?_
      exact ⟨by rw [hfin.out.1, hfin.out.2]; rfl, B5⟩
end Go.Proofs.Ytigmpmichhghdaa
