/- Log.Rewrite on a device that may fail. -/
import Derived.Test.YtofgphiamllmdabLayX
namespace Go.Proofs.Ytofgphiamllmdab
open Go.RowKit
set_option maxRecDepth 100000
/-- The records' sectors. -/
def laidL (life : Int) : Int → List (List Int) → List (List Int)
  | _, [] => []
  | seq, ys :: t => recB life seq ys :: laidL life (seq + 1) t
theorem laidL_len (life : Int) : ∀ (seq : Int) (recs : List (List Int)), (laidL life seq recs).length = recs.length
  | _, [] => rfl
  | seq, _ :: t => by simp only [laidL, List.length_cons, laidL_len life (seq + 1) t]
theorem laidL_at (life : Int) : ∀ (seq : Int) (recs : List (List Int)) (i : Nat), (laidL life seq recs)[i]? = (recs[i]?).map (recB life (seq + (i : Int)))
  | _, [], i => by simp [laidL]
  | seq, y :: t, 0 => by simp [laidL]
  | seq, y :: t, i + 1 => by
    simp only [laidL, List.getElem?_cons_succ, laidL_at life (seq + 1) t i]
    rw [show seq + 1 + (i : Int) = seq + ((i + 1 : Nat) : Int) by omega]
theorem laid_parts {w : World} {vs : Array Value} {life seq : Int} {recs : List (List Int)} (h : ∀ (i : Nat) (ys : List Int), recs[i]? = some ys → ∃ v, vs[i]? = some v ∧ PartAt w v (recB life (seq + (i : Int)) ys)) : ∀ (i : Nat) (xs : List Int), (laidL life seq recs)[i]? = some xs → ∃ v, vs[i]? = some v ∧ PartAt w v xs := by
  intro i xs hi
  rw [laidL_at] at hi
  rcases hr : recs[i]? with _ | ys
  · rw [hr] at hi; cases hi
  · rw [hr] at hi
    injection hi with hi
    subst hi
    exact h i ys hr
/-- How many sectors some records take. -/
def secR : List (List Int) → Nat
  | [] => 0
  | ys :: t => (ys.length + 111) / 112 + secR t
theorem secR_snoc (recs : List (List Int)) (ys : List Int) : secR (recs ++ [ys]) = secR recs + (ys.length + 111) / 112 := by
  induction recs with
  | nil => simp [secR]
  | cons x t ih => simp only [List.cons_append, secR, ih]; omega
theorem secR_take (recs : List (List Int)) (i : Nat) : secR (recs.take i) ≤ secR recs := by
  induction recs generalizing i with
  | nil => simp [secR]
  | cons x t ih =>
    cases i with
    | zero => simp [secR]
    | succ i => simp only [List.take_succ_cons, secR]; have := ih i; omega
theorem secsL_laid (life : Int) : ∀ (seq : Int) (recs : List (List Int)), (∀ ys ∈ recs, ∀ y ∈ ys, 0 ≤ y ∧ y < 256) → secsL (laidL life seq recs) = secR recs
  | _, [], _ => rfl
  | seq, ys :: t, h => by
    simp only [laidL, secsL, secR]
    rw [secsL_laid life (seq + 1) t (fun x hx => h x (by simp [hx])), recB_len life seq (h ys (by simp))]
    omega
section
variable {w : World} {n₀ p bs bn : Nat} {pv : Value} {size : Int} {G0 G1 : Int → List Int} {L : List (Int × List Int)} {left : Int}
variable {lb : Nat} {life half first since seq hs used : Int}
set_option maxHeartbeats 8000000 in
theorem rewrite_any (D0 : Dev w n₀ p bs bn pv size G0 G1 L left false) (hl0 : w.heap[lb]? = some (logO p life half first since seq hs used false)) (hs0 : 2 ≤ size) (hs1 : size ≤ 4096) (hL : L.length ≤ 999970000) (hlf0 : 0 ≤ left) (hlf1 : left ≤ 9223372036854775807) (hhalf : half = 0 ∨ half = 1) (hh0 : 0 ≤ hs) (hh1 : hs ≤ 100000) (hq0 : 0 ≤ seq) (hf0 : 0 ≤ life) (hf1 : life < 1099511627776)
    {ra : Option Addr} {m rc : Nat} {recs : List (List Int)} (hrs : SlL w ra recs) (hm : recs.length = m) (hm1 : m ≤ 4096) (hq1 : seq + (m : Int) ≤ 1099511627776) {T : Nat} (hT : secR recs = T) (hTs : (T : Int) ≤ hs) (hsz : 2 + (1 - half) * hs + (T : Int) ≤ size) :
    Calls Try.prog 22 #[.pointer (some ⟨lb, 0, none⟩), .slice ra m rc] w fun e w' =>
      (e = .returned (.int .i64 0) ∧ (left = 0 ∨ (T : Int) + 1 < left) ∧ Dev w' n₀ p bs bn (.slice none 0 0) size (appl (appl G0 (L ++ wsL (2 + (1 - half) * hs) (laidL (life + 1) seq recs))) [((life + 1) % 2, headB (life + 1) (1 - half) seq (life + 1))]) (appl (appl G1 (wsL (2 + (1 - half) * hs) (laidL (life + 1) seq recs))) [((life + 1) % 2, headB (life + 1) (1 - half) seq (life + 1))]) [] (max 0 (left - ((T : Int) + 1))) false ∧ w'.heap[lb]? = some (logO p (life + 1) (1 - half) seq (life + 1) (seq + (m : Int)) hs (T : Int) false) ∧ Fl lb p bs bn w pv w') ∨
      (e = .returned (.int .i64 14) ∧ (∃ j, j < T ∧ left = (j : Int) + 1 ∧ ∃ pv', Dev w' n₀ p bs bn pv' size G0 (appl G1 ((wsL (2 + (1 - half) * hs) (laidL (life + 1) seq recs)).take j)) (L ++ (wsL (2 + (1 - half) * hs) (laidL (life + 1) seq recs)).take j) 1 true) ∧ Fl lb p bs bn w pv w') ∨
      (e = .returned (.int .i64 14) ∧ left = (T : Int) + 1 ∧ (∃ pv', Dev w' n₀ p bs bn pv' size (appl G0 (L ++ wsL (2 + (1 - half) * hs) (laidL (life + 1) seq recs))) (appl G1 (wsL (2 + (1 - half) * hs) (laidL (life + 1) seq recs))) [] 1 true) ∧ Fl lb p bs bn w pv w') := by
  have hhalf' : 1 - half = 0 ∨ 1 - half = 1 := by omega
  have hwh : IntKind.i64.wrap (1 - half) = 1 - half := by rw [IntKind.wrap_i64]; omega
  have hwl : IntKind.i64.wrap (life + 1) = life + 1 := by rw [IntKind.wrap_i64]; omega
  have hws : IntKind.i64.wrap (seq + (m : Int)) = seq + (m : Int) := by rw [IntKind.wrap_i64]; omega
  have hbyr : ∀ ys ∈ recs, ∀ y ∈ ys, 0 ≤ y ∧ y < 256 := fun ys hy => by
    obtain ⟨i, hi, rfl⟩ := List.getElem_of_mem hy
    obtain ⟨_, _, _, _, _, _, hB⟩ := hrs.cell i _ (List.getElem?_eq_getElem hi)
    exact hB.byte
  have hlaid : secsL (laidL (life + 1) seq recs) = T := by rw [secsL_laid (life + 1) seq recs hbyr, hT]
  have hst0 : 0 ≤ 2 + (1 - half) * hs := by rcases hhalf with rfl | rfl <;> omega
  have hst1 : 2 + (1 - half) * hs + (secsL (laidL (life + 1) seq recs) : Int) ≤ size := by rw [hlaid]; exact hsz
  have hwlen : (wsL (2 + (1 - half) * hs) (laidL (life + 1) seq recs)).length = T := by rw [wsL_len, hlaid]
  replace hhalf : Hid (half = 0 ∨ half = 1) := hhalf
  replace hT : Hid (secR recs = T) := hT
  replace hlaid : Hid (secsL (laidL (life + 1) seq recs) = T) := hlaid
  go_enter Try.func22, Try.ntmps22
  go_wp2_with fail
  refine (may_any (c := rc) hl0 hrs hm hm1).mono ?_
  rintro e w2 ⟨rfl, rfl⟩
  have hl := hl0
  obtain ⟨c0, c1, c2, c3, c4, c5, c6, c7, c8, cf⟩ := log_cells hl0
  go_wp2
  go_loopw [6, 22] (fun uv iv wr => ∃ i : Nat, i ≤ m ∧ iv = .int .i64 (i : Int) ∧ uv = .int .i64 (secR (recs.take i) : Int) ∧ wr = w) (fun _ iv _ => m - (intOf iv).toNat)
  case atStart => exact ⟨0, by omega, rfl, by simp [secR], rfl⟩
  case round =>
    obtain ⟨i, hi, rfl, rfl, rfl⟩ := hrel
    by_cases him : i = m
    · have et : recs.take i = recs := List.take_of_length_le (by omega)
      rw [et, hT.out]
      have him' := him.symm
      clear him
      subst him'
      have hl2 : ¬ (m : Int) < (m : Int) := by omega
      have b1 : ¬ hs < (T : Int) := by omega
      have b2 : decide (hs < (T : Int)) = false := by simp [b1]
      have b3 : ¬ life = 1099511627776 := by omega
      have b4 : (life == 1099511627776) = false := by simp [b3]
      have b5 : ¬ (1099511627776 : Int) < seq + (m : Int) := by omega
      have b6 : decide ((1099511627776 : Int) < seq + (m : Int)) = false := by simp [b5]
      go_upto_region 14 with fail
      clear c0 c1 c2 c3 c4 c5 c6 c7 c8 cf b1 b2 b3 b4 b5 b6
      obtain ⟨W, rfl⟩ : ∃ W, W = wr := ⟨_, rfl⟩
      refine wp_region_inv' (fun A D a w' => ∃ v63 v64 v65 v66 v67 v68 v69 v70 v71 v72 v73 v74 v75 v11 hb, a = ((((((((((((((A.put (some 63) v63).put (some 64) v64).put (some 65) v65).put (some 66) v66).put (some 67) v67).put (some 68) v68).put (some 69) v69).put (some 70) v70).put (some 71) v71).put (some 72) v72).put (some 73) v73).put (some 74) v74).put (some 75) v75).put (some 11) v11) ∧ Below W.heap.size W w' ∧ (D 0 → v63 = .int .i64 (life + 1)) ∧ (D 1 → v64 = .pointer (some ⟨lb, 0, none⟩)) ∧ (D 2 → v65 = .pointer (some ⟨lb, 0, none⟩)) ∧ (D 3 → v66 = .pointer (some ⟨lb, 1, none⟩)) ∧ (D 4 → v67 = .pointer (some ⟨lb, 2, none⟩)) ∧ (D 5 → v68 = .int .i64 half) ∧ (D 6 → v69 = .int .i64 (1 - half)) ∧ (D 7 → v70 = .pointer (some ⟨lb, 0, none⟩)) ∧ (D 8 → v71 = .pointer (some ⟨lb, 0, none⟩)) ∧ (D 9 → v72 = .pointer (some ⟨lb, 5, none⟩)) ∧ (D 10 → v73 = .int .i64 seq) ∧ (D 11 → v74 = .int .i64 (life + 1)) ∧ (D 12 → v75 = .agg #[.int .i64 (life + 1), .int .i64 (1 - half), .int .i64 seq, .int .i64 (life + 1)]) ∧ (D 13 → v11 = .pointer (some ⟨hb, 0, none⟩)) ∧ (D 13 → W.heap.size ≤ hb) ∧ (D 14 → w'.heap[hb]? = some (.cells #[.int .i64 (life + 1), .int .i64 (1 - half), .int .i64 seq, .int .i64 (life + 1)] 80 (0, 0))) ∧ (D 13 → ¬ D 14 → w'.heap[hb]? = some (.cells #[.int .i64 0, .int .i64 0, .int .i64 0, .int .i64 0] 80 (0, 0)))) (by kernel_rfl) (by kernel_rfl) ?mono ?start ?step ?done
      case mono =>
        rintro D D' a w' hD ⟨v63, v64, v65, v66, v67, v68, v69, v70, v71, v72, v73, v74, v75, v11, hb, ha, hB, e0, e1, e2, e3, e4, e5, e6, e7, e8, e9, e10, e11, e12, e13, hhb, hr, hnz⟩
        exact ⟨v63, v64, v65, v66, v67, v68, v69, v70, v71, v72, v73, v74, v75, v11, hb, ha, hB, fun h => e0 ((hD 0).2 h), fun h => e1 ((hD 1).2 h), fun h => e2 ((hD 2).2 h), fun h => e3 ((hD 3).2 h), fun h => e4 ((hD 4).2 h), fun h => e5 ((hD 5).2 h), fun h => e6 ((hD 6).2 h), fun h => e7 ((hD 7).2 h), fun h => e8 ((hD 8).2 h), fun h => e9 ((hD 9).2 h), fun h => e10 ((hD 10).2 h), fun h => e11 ((hD 11).2 h), fun h => e12 ((hD 12).2 h), fun h => e13 ((hD 13).2 h), fun h => hhb ((hD 13).2 h), fun h => hr ((hD 14).2 h), fun h h' => hnz ((hD 13).2 h) (fun k => h' ((hD 14).1 k))⟩
      case start => exact ⟨undef, undef, undef, undef, undef, undef, undef, undef, undef, undef, undef, undef, undef, undef, 0, by kernel_rfl, (Below.refl _ _).drew, fun h => h.elim, fun h => h.elim, fun h => h.elim, fun h => h.elim, fun h => h.elim, fun h => h.elim, fun h => h.elim, fun h => h.elim, fun h => h.elim, fun h => h.elim, fun h => h.elim, fun h => h.elim, fun h => h.elim, fun h => h.elim, fun h => h.elim, fun h => h.elim, fun h _ => h.elim⟩
      case step =>
        intro i o ho D a w' hI hn hcl hd
        obtain ⟨v63, v64, v65, v66, v67, v68, v69, v70, v71, v72, v73, v74, v75, v11, hb, ha, hB, e0, e1, e2, e3, e4, e5, e6, e7, e8, e9, e10, e11, e12, e13, hhb, hr, hnz⟩ := hI
        match i, ho with
        | 0, ho =>
          cases Option.some.inj ho
          have ev : a.tmps[10]?.getD undef = .int .i64 (life + 1) := by rw [ha]; kernel_rfl
          refine wp_value (w' := w') (v := .int .i64 (life + 1)) (by simp [execOp, ev, go_sem]) ?_
          exact ⟨(.int .i64 (life + 1)), v64, v65, v66, v67, v68, v69, v70, v71, v72, v73, v74, v75, v11, hb, by rw [ha]; kernel_rfl, hB, fun _ => rfl, fun h => e1 (h.resolve_left (by decide)), fun h => e2 (h.resolve_left (by decide)), fun h => e3 (h.resolve_left (by decide)), fun h => e4 (h.resolve_left (by decide)), fun h => e5 (h.resolve_left (by decide)), fun h => e6 (h.resolve_left (by decide)), fun h => e7 (h.resolve_left (by decide)), fun h => e8 (h.resolve_left (by decide)), fun h => e9 (h.resolve_left (by decide)), fun h => e10 (h.resolve_left (by decide)), fun h => e11 (h.resolve_left (by decide)), fun h => e12 (h.resolve_left (by decide)), fun h => e13 (h.resolve_left (by decide)), fun h => hhb (h.resolve_left (by decide)), fun h => hr (h.resolve_left (by decide)), fun h h' => hnz (h.resolve_left (by decide)) (fun k => h' (.inr k))⟩
        | 1, ho =>
          cases Option.some.inj ho
          have ev : a.tmps[0]?.getD undef = .pointer (some ⟨lb, 0, none⟩) := by rw [ha]; kernel_rfl
          refine wp_value (w' := w') (v := .pointer (some ⟨lb, 0, none⟩)) (by simp [execOp, ev, go_sem]) ?_
          exact ⟨v63, (.pointer (some ⟨lb, 0, none⟩)), v65, v66, v67, v68, v69, v70, v71, v72, v73, v74, v75, v11, hb, by rw [ha]; kernel_rfl, hB, fun h => e0 (h.resolve_left (by decide)), fun _ => rfl, fun h => e2 (h.resolve_left (by decide)), fun h => e3 (h.resolve_left (by decide)), fun h => e4 (h.resolve_left (by decide)), fun h => e5 (h.resolve_left (by decide)), fun h => e6 (h.resolve_left (by decide)), fun h => e7 (h.resolve_left (by decide)), fun h => e8 (h.resolve_left (by decide)), fun h => e9 (h.resolve_left (by decide)), fun h => e10 (h.resolve_left (by decide)), fun h => e11 (h.resolve_left (by decide)), fun h => e12 (h.resolve_left (by decide)), fun h => e13 (h.resolve_left (by decide)), fun h => hhb (h.resolve_left (by decide)), fun h => hr (h.resolve_left (by decide)), fun h h' => hnz (h.resolve_left (by decide)) (fun k => h' (.inr k))⟩
        | 2, ho =>
          cases Option.some.inj ho
          have ev : a.tmps[64]?.getD undef = .pointer (some ⟨lb, 0, none⟩) := by rw [ha, e1 (hd ⟨1, .data⟩ (by simp) rfl)]; kernel_rfl
          refine wp_value (w' := w') (v := .pointer (some ⟨lb, 0, none⟩)) (by simp [execOp, ev, go_sem]) ?_
          exact ⟨v63, v64, (.pointer (some ⟨lb, 0, none⟩)), v66, v67, v68, v69, v70, v71, v72, v73, v74, v75, v11, hb, by rw [ha]; kernel_rfl, hB, fun h => e0 (h.resolve_left (by decide)), fun h => e1 (h.resolve_left (by decide)), fun _ => rfl, fun h => e3 (h.resolve_left (by decide)), fun h => e4 (h.resolve_left (by decide)), fun h => e5 (h.resolve_left (by decide)), fun h => e6 (h.resolve_left (by decide)), fun h => e7 (h.resolve_left (by decide)), fun h => e8 (h.resolve_left (by decide)), fun h => e9 (h.resolve_left (by decide)), fun h => e10 (h.resolve_left (by decide)), fun h => e11 (h.resolve_left (by decide)), fun h => e12 (h.resolve_left (by decide)), fun h => e13 (h.resolve_left (by decide)), fun h => hhb (h.resolve_left (by decide)), fun h => hr (h.resolve_left (by decide)), fun h h' => hnz (h.resolve_left (by decide)) (fun k => h' (.inr k))⟩
        | 3, ho =>
          cases Option.some.inj ho
          have ev : a.tmps[65]?.getD undef = .pointer (some ⟨lb, 0, none⟩) := by rw [ha, e2 (hd ⟨2, .data⟩ (by simp) rfl)]; kernel_rfl
          refine wp_value (w' := w') (v := .pointer (some ⟨lb, 1, none⟩)) (by simp [execOp, ev, go_sem]) ?_
          exact ⟨v63, v64, v65, (.pointer (some ⟨lb, 1, none⟩)), v67, v68, v69, v70, v71, v72, v73, v74, v75, v11, hb, by rw [ha]; kernel_rfl, hB, fun h => e0 (h.resolve_left (by decide)), fun h => e1 (h.resolve_left (by decide)), fun h => e2 (h.resolve_left (by decide)), fun _ => rfl, fun h => e4 (h.resolve_left (by decide)), fun h => e5 (h.resolve_left (by decide)), fun h => e6 (h.resolve_left (by decide)), fun h => e7 (h.resolve_left (by decide)), fun h => e8 (h.resolve_left (by decide)), fun h => e9 (h.resolve_left (by decide)), fun h => e10 (h.resolve_left (by decide)), fun h => e11 (h.resolve_left (by decide)), fun h => e12 (h.resolve_left (by decide)), fun h => e13 (h.resolve_left (by decide)), fun h => hhb (h.resolve_left (by decide)), fun h => hr (h.resolve_left (by decide)), fun h h' => hnz (h.resolve_left (by decide)) (fun k => h' (.inr k))⟩
        | 4, ho =>
          cases Option.some.inj ho
          have ev : a.tmps[66]?.getD undef = .pointer (some ⟨lb, 1, none⟩) := by rw [ha, e3 (hd ⟨3, .data⟩ (by simp) rfl)]; kernel_rfl
          refine wp_value (w' := w') (v := .pointer (some ⟨lb, 2, none⟩)) (by simp [execOp, ev, go_sem]) ?_
          exact ⟨v63, v64, v65, v66, (.pointer (some ⟨lb, 2, none⟩)), v68, v69, v70, v71, v72, v73, v74, v75, v11, hb, by rw [ha]; kernel_rfl, hB, fun h => e0 (h.resolve_left (by decide)), fun h => e1 (h.resolve_left (by decide)), fun h => e2 (h.resolve_left (by decide)), fun h => e3 (h.resolve_left (by decide)), fun _ => rfl, fun h => e5 (h.resolve_left (by decide)), fun h => e6 (h.resolve_left (by decide)), fun h => e7 (h.resolve_left (by decide)), fun h => e8 (h.resolve_left (by decide)), fun h => e9 (h.resolve_left (by decide)), fun h => e10 (h.resolve_left (by decide)), fun h => e11 (h.resolve_left (by decide)), fun h => e12 (h.resolve_left (by decide)), fun h => e13 (h.resolve_left (by decide)), fun h => hhb (h.resolve_left (by decide)), fun h => hr (h.resolve_left (by decide)), fun h h' => hnz (h.resolve_left (by decide)) (fun k => h' (.inr k))⟩
        | 5, ho =>
          cases Option.some.inj ho
          have ev : a.tmps[67]?.getD undef = .pointer (some ⟨lb, 2, none⟩) := by rw [ha, e4 (hd ⟨4, .data⟩ (by simp) rfl)]; kernel_rfl
          have hc := (log_cells ((hB.block lb (lt_of_block hl)).trans hl)).2.2.1
          refine wp_value (w' := w') (v := .int .i64 half) (by simp [execOp, ev, go_sem, hc]) ?_
          exact ⟨v63, v64, v65, v66, v67, (.int .i64 half), v69, v70, v71, v72, v73, v74, v75, v11, hb, by rw [ha]; kernel_rfl, hB, fun h => e0 (h.resolve_left (by decide)), fun h => e1 (h.resolve_left (by decide)), fun h => e2 (h.resolve_left (by decide)), fun h => e3 (h.resolve_left (by decide)), fun h => e4 (h.resolve_left (by decide)), fun _ => rfl, fun h => e6 (h.resolve_left (by decide)), fun h => e7 (h.resolve_left (by decide)), fun h => e8 (h.resolve_left (by decide)), fun h => e9 (h.resolve_left (by decide)), fun h => e10 (h.resolve_left (by decide)), fun h => e11 (h.resolve_left (by decide)), fun h => e12 (h.resolve_left (by decide)), fun h => e13 (h.resolve_left (by decide)), fun h => hhb (h.resolve_left (by decide)), fun h => hr (h.resolve_left (by decide)), fun h h' => hnz (h.resolve_left (by decide)) (fun k => h' (.inr k))⟩
        | 6, ho =>
          cases Option.some.inj ho
          have ev : a.tmps[68]?.getD undef = .int .i64 half := by rw [ha, e5 (hd ⟨5, .data⟩ (by simp) rfl)]; kernel_rfl
          refine wp_value (w' := w') (v := .int .i64 (1 - half)) (by simp [execOp, ev, go_sem, hwh]) ?_
          exact ⟨v63, v64, v65, v66, v67, v68, (.int .i64 (1 - half)), v70, v71, v72, v73, v74, v75, v11, hb, by rw [ha]; kernel_rfl, hB, fun h => e0 (h.resolve_left (by decide)), fun h => e1 (h.resolve_left (by decide)), fun h => e2 (h.resolve_left (by decide)), fun h => e3 (h.resolve_left (by decide)), fun h => e4 (h.resolve_left (by decide)), fun h => e5 (h.resolve_left (by decide)), fun _ => rfl, fun h => e7 (h.resolve_left (by decide)), fun h => e8 (h.resolve_left (by decide)), fun h => e9 (h.resolve_left (by decide)), fun h => e10 (h.resolve_left (by decide)), fun h => e11 (h.resolve_left (by decide)), fun h => e12 (h.resolve_left (by decide)), fun h => e13 (h.resolve_left (by decide)), fun h => hhb (h.resolve_left (by decide)), fun h => hr (h.resolve_left (by decide)), fun h h' => hnz (h.resolve_left (by decide)) (fun k => h' (.inr k))⟩
        | 7, ho =>
          cases Option.some.inj ho
          have ev : a.tmps[0]?.getD undef = .pointer (some ⟨lb, 0, none⟩) := by rw [ha]; kernel_rfl
          refine wp_value (w' := w') (v := .pointer (some ⟨lb, 0, none⟩)) (by simp [execOp, ev, go_sem]) ?_
          exact ⟨v63, v64, v65, v66, v67, v68, v69, (.pointer (some ⟨lb, 0, none⟩)), v71, v72, v73, v74, v75, v11, hb, by rw [ha]; kernel_rfl, hB, fun h => e0 (h.resolve_left (by decide)), fun h => e1 (h.resolve_left (by decide)), fun h => e2 (h.resolve_left (by decide)), fun h => e3 (h.resolve_left (by decide)), fun h => e4 (h.resolve_left (by decide)), fun h => e5 (h.resolve_left (by decide)), fun h => e6 (h.resolve_left (by decide)), fun _ => rfl, fun h => e8 (h.resolve_left (by decide)), fun h => e9 (h.resolve_left (by decide)), fun h => e10 (h.resolve_left (by decide)), fun h => e11 (h.resolve_left (by decide)), fun h => e12 (h.resolve_left (by decide)), fun h => e13 (h.resolve_left (by decide)), fun h => hhb (h.resolve_left (by decide)), fun h => hr (h.resolve_left (by decide)), fun h h' => hnz (h.resolve_left (by decide)) (fun k => h' (.inr k))⟩
        | 8, ho =>
          cases Option.some.inj ho
          have ev : a.tmps[70]?.getD undef = .pointer (some ⟨lb, 0, none⟩) := by rw [ha, e7 (hd ⟨7, .data⟩ (by simp) rfl)]; kernel_rfl
          refine wp_value (w' := w') (v := .pointer (some ⟨lb, 0, none⟩)) (by simp [execOp, ev, go_sem]) ?_
          exact ⟨v63, v64, v65, v66, v67, v68, v69, v70, (.pointer (some ⟨lb, 0, none⟩)), v72, v73, v74, v75, v11, hb, by rw [ha]; kernel_rfl, hB, fun h => e0 (h.resolve_left (by decide)), fun h => e1 (h.resolve_left (by decide)), fun h => e2 (h.resolve_left (by decide)), fun h => e3 (h.resolve_left (by decide)), fun h => e4 (h.resolve_left (by decide)), fun h => e5 (h.resolve_left (by decide)), fun h => e6 (h.resolve_left (by decide)), fun h => e7 (h.resolve_left (by decide)), fun _ => rfl, fun h => e9 (h.resolve_left (by decide)), fun h => e10 (h.resolve_left (by decide)), fun h => e11 (h.resolve_left (by decide)), fun h => e12 (h.resolve_left (by decide)), fun h => e13 (h.resolve_left (by decide)), fun h => hhb (h.resolve_left (by decide)), fun h => hr (h.resolve_left (by decide)), fun h h' => hnz (h.resolve_left (by decide)) (fun k => h' (.inr k))⟩
        | 9, ho =>
          cases Option.some.inj ho
          have ev : a.tmps[71]?.getD undef = .pointer (some ⟨lb, 0, none⟩) := by rw [ha, e8 (hd ⟨8, .data⟩ (by simp) rfl)]; kernel_rfl
          refine wp_value (w' := w') (v := .pointer (some ⟨lb, 5, none⟩)) (by simp [execOp, ev, go_sem]) ?_
          exact ⟨v63, v64, v65, v66, v67, v68, v69, v70, v71, (.pointer (some ⟨lb, 5, none⟩)), v73, v74, v75, v11, hb, by rw [ha]; kernel_rfl, hB, fun h => e0 (h.resolve_left (by decide)), fun h => e1 (h.resolve_left (by decide)), fun h => e2 (h.resolve_left (by decide)), fun h => e3 (h.resolve_left (by decide)), fun h => e4 (h.resolve_left (by decide)), fun h => e5 (h.resolve_left (by decide)), fun h => e6 (h.resolve_left (by decide)), fun h => e7 (h.resolve_left (by decide)), fun h => e8 (h.resolve_left (by decide)), fun _ => rfl, fun h => e10 (h.resolve_left (by decide)), fun h => e11 (h.resolve_left (by decide)), fun h => e12 (h.resolve_left (by decide)), fun h => e13 (h.resolve_left (by decide)), fun h => hhb (h.resolve_left (by decide)), fun h => hr (h.resolve_left (by decide)), fun h h' => hnz (h.resolve_left (by decide)) (fun k => h' (.inr k))⟩
        | 10, ho =>
          cases Option.some.inj ho
          have ev : a.tmps[72]?.getD undef = .pointer (some ⟨lb, 5, none⟩) := by rw [ha, e9 (hd ⟨9, .data⟩ (by simp) rfl)]; kernel_rfl
          have hc := (log_cells ((hB.block lb (lt_of_block hl)).trans hl)).2.2.2.2.2.1
          refine wp_value (w' := w') (v := .int .i64 seq) (by simp [execOp, ev, go_sem, hc]) ?_
          exact ⟨v63, v64, v65, v66, v67, v68, v69, v70, v71, v72, (.int .i64 seq), v74, v75, v11, hb, by rw [ha]; kernel_rfl, hB, fun h => e0 (h.resolve_left (by decide)), fun h => e1 (h.resolve_left (by decide)), fun h => e2 (h.resolve_left (by decide)), fun h => e3 (h.resolve_left (by decide)), fun h => e4 (h.resolve_left (by decide)), fun h => e5 (h.resolve_left (by decide)), fun h => e6 (h.resolve_left (by decide)), fun h => e7 (h.resolve_left (by decide)), fun h => e8 (h.resolve_left (by decide)), fun h => e9 (h.resolve_left (by decide)), fun _ => rfl, fun h => e11 (h.resolve_left (by decide)), fun h => e12 (h.resolve_left (by decide)), fun h => e13 (h.resolve_left (by decide)), fun h => hhb (h.resolve_left (by decide)), fun h => hr (h.resolve_left (by decide)), fun h h' => hnz (h.resolve_left (by decide)) (fun k => h' (.inr k))⟩
        | 11, ho =>
          cases Option.some.inj ho
          have ev : a.tmps[10]?.getD undef = .int .i64 (life + 1) := by rw [ha]; kernel_rfl
          refine wp_value (w' := w') (v := .int .i64 (life + 1)) (by simp [execOp, ev, go_sem]) ?_
          exact ⟨v63, v64, v65, v66, v67, v68, v69, v70, v71, v72, v73, (.int .i64 (life + 1)), v75, v11, hb, by rw [ha]; kernel_rfl, hB, fun h => e0 (h.resolve_left (by decide)), fun h => e1 (h.resolve_left (by decide)), fun h => e2 (h.resolve_left (by decide)), fun h => e3 (h.resolve_left (by decide)), fun h => e4 (h.resolve_left (by decide)), fun h => e5 (h.resolve_left (by decide)), fun h => e6 (h.resolve_left (by decide)), fun h => e7 (h.resolve_left (by decide)), fun h => e8 (h.resolve_left (by decide)), fun h => e9 (h.resolve_left (by decide)), fun h => e10 (h.resolve_left (by decide)), fun _ => rfl, fun h => e12 (h.resolve_left (by decide)), fun h => e13 (h.resolve_left (by decide)), fun h => hhb (h.resolve_left (by decide)), fun h => hr (h.resolve_left (by decide)), fun h h' => hnz (h.resolve_left (by decide)) (fun k => h' (.inr k))⟩
        | 12, ho =>
          cases Option.some.inj ho
          have ev : a.tmps[63]?.getD undef = .int .i64 (life + 1) := by rw [ha, e0 (hd ⟨0, .data⟩ (by simp) rfl)]; kernel_rfl
          have ev' : a.tmps[69]?.getD undef = .int .i64 (1 - half) := by rw [ha, e6 (hd ⟨6, .data⟩ (by simp) rfl)]; kernel_rfl
          have ev'' : a.tmps[73]?.getD undef = .int .i64 seq := by rw [ha, e10 (hd ⟨10, .data⟩ (by simp) rfl)]; kernel_rfl
          have ev''' : a.tmps[74]?.getD undef = .int .i64 (life + 1) := by rw [ha, e11 (hd ⟨11, .data⟩ (by simp) rfl)]; kernel_rfl
          refine wp_value (w' := w') (v := .agg #[.int .i64 (life + 1), .int .i64 (1 - half), .int .i64 seq, .int .i64 (life + 1)]) (by simp [execOp, ev, ev', ev'', ev''', go_sem]) ?_
          exact ⟨v63, v64, v65, v66, v67, v68, v69, v70, v71, v72, v73, v74, (.agg #[.int .i64 (life + 1), .int .i64 (1 - half), .int .i64 seq, .int .i64 (life + 1)]), v11, hb, by rw [ha]; kernel_rfl, hB, fun h => e0 (h.resolve_left (by decide)), fun h => e1 (h.resolve_left (by decide)), fun h => e2 (h.resolve_left (by decide)), fun h => e3 (h.resolve_left (by decide)), fun h => e4 (h.resolve_left (by decide)), fun h => e5 (h.resolve_left (by decide)), fun h => e6 (h.resolve_left (by decide)), fun h => e7 (h.resolve_left (by decide)), fun h => e8 (h.resolve_left (by decide)), fun h => e9 (h.resolve_left (by decide)), fun h => e10 (h.resolve_left (by decide)), fun h => e11 (h.resolve_left (by decide)), fun _ => rfl, fun h => e13 (h.resolve_left (by decide)), fun h => hhb (h.resolve_left (by decide)), fun h => hr (h.resolve_left (by decide)), fun h h' => hnz (h.resolve_left (by decide)) (fun k => h' (.inr k))⟩
        | 13, ho =>
          cases Option.some.inj ho
          refine wp_value (w' := w'.alloc (.cells #[.int .i64 0, .int .i64 0, .int .i64 0, .int .i64 0] 80)) (v := .pointer (some ⟨w'.heap.size, 0, none⟩)) (by simp [execOp, go_sem]) ?_
          exact ⟨v63, v64, v65, v66, v67, v68, v69, v70, v71, v72, v73, v74, v75, (.pointer (some ⟨w'.heap.size, 0, none⟩)), w'.heap.size, by rw [ha]; kernel_rfl, hB.alloc hB.size _, fun h => e0 (h.resolve_left (by decide)), fun h => e1 (h.resolve_left (by decide)), fun h => e2 (h.resolve_left (by decide)), fun h => e3 (h.resolve_left (by decide)), fun h => e4 (h.resolve_left (by decide)), fun h => e5 (h.resolve_left (by decide)), fun h => e6 (h.resolve_left (by decide)), fun h => e7 (h.resolve_left (by decide)), fun h => e8 (h.resolve_left (by decide)), fun h => e9 (h.resolve_left (by decide)), fun h => e10 (h.resolve_left (by decide)), fun h => e11 (h.resolve_left (by decide)), fun h => e12 (h.resolve_left (by decide)), fun _ => rfl, fun _ => hB.size, fun h => absurd (h.resolve_left (by decide)) (fun h => hn (hcl 14 _ rfl h ⟨13, .data⟩ (by simp) rfl)), fun _ _ => heap_alloc_new _ _⟩
        | 14, ho =>
          cases Option.some.inj ho
          have ev : a.tmps[11]?.getD undef = .pointer (some ⟨hb, 0, none⟩) := by rw [ha, e13 (hd ⟨13, .data⟩ (by simp) rfl)]; kernel_rfl
          have ev' : a.tmps[75]?.getD undef = .agg #[.int .i64 (life + 1), .int .i64 (1 - half), .int .i64 seq, .int .i64 (life + 1)] := by rw [ha, e12 (hd ⟨12, .data⟩ (by simp) rfl)]; kernel_rfl
          have hz := hnz (hd ⟨13, .data⟩ (by simp) rfl) hn
          have hhb' := hhb (hd ⟨13, .data⟩ (by simp) rfl)
          refine wp_store_row 80 (.tmp 11) (.tmp 75) rfl hb #[.int .i64 (life + 1), .int .i64 (1 - half), .int .i64 seq, .int .i64 (life + 1)] (eval_of ev) (eval_of ev') 80 _ hz (by kernel_rfl) rfl (by simp [Value.oneCell']) ?_
          exact ⟨v63, v64, v65, v66, v67, v68, v69, v70, v71, v72, v73, v74, v75, v11, hb, by rw [ha]; kernel_rfl, below_setRow hB hhb' _, fun h => e0 (h.resolve_left (by decide)), fun h => e1 (h.resolve_left (by decide)), fun h => e2 (h.resolve_left (by decide)), fun h => e3 (h.resolve_left (by decide)), fun h => e4 (h.resolve_left (by decide)), fun h => e5 (h.resolve_left (by decide)), fun h => e6 (h.resolve_left (by decide)), fun h => e7 (h.resolve_left (by decide)), fun h => e8 (h.resolve_left (by decide)), fun h => e9 (h.resolve_left (by decide)), fun h => e10 (h.resolve_left (by decide)), fun h => e11 (h.resolve_left (by decide)), fun h => e12 (h.resolve_left (by decide)), fun h => e13 (h.resolve_left (by decide)), fun h => hhb (h.resolve_left (by decide)), fun _ => setRow_heap _ _ _ _ _ _ hz, fun _ h' => absurd (.inl rfl) h'⟩
        | i + 15, ho => simp at ho
      case done =>
        rintro D a w' ⟨v63, v64, v65, v66, v67, v68, v69, v70, v71, v72, v73, v74, v75, v11, hb, ha, hB, e0, e1, e2, e3, e4, e5, e6, e7, e8, e9, e10, e11, e12, e13, hhb, hr, hnz⟩ hall
        have hhb' := hhb (hall 13 (by decide))
        have hr' := hr (hall 14 (by decide))
        obtain rfl := e0 (hall 0 (by decide))
        obtain rfl := e1 (hall 1 (by decide))
        obtain rfl := e2 (hall 2 (by decide))
        obtain rfl := e3 (hall 3 (by decide))
        obtain rfl := e4 (hall 4 (by decide))
        obtain rfl := e5 (hall 5 (by decide))
        obtain rfl := e6 (hall 6 (by decide))
        obtain rfl := e7 (hall 7 (by decide))
        obtain rfl := e8 (hall 8 (by decide))
        obtain rfl := e9 (hall 9 (by decide))
        obtain rfl := e10 (hall 10 (by decide))
        obtain rfl := e11 (hall 11 (by decide))
        obtain rfl := e12 (hall 12 (by decide))
        obtain rfl := e13 (hall 13 (by decide))
        clear hhb hr hnz hall e0 e1 e2 e3 e4 e5 e6 e7 e8 e9 e10 e11 e12 e13
        rw [ha]
        clear ha
        simp only [Act.put, List.setIfInBounds_toArray, List.set_cons_zero, List.set_cons_succ]
        have hr2 := hr'
        clear hr'
        have D2 := D0.same (fun i hi => hB.block i hi)
        have hl2 := (hB.block lb (lt_of_block hl)).trans hl
        have hrs2 := hrs.below hB
        go_upto_region 15 with fail
        have B2 := hB
        clear hB
        obtain ⟨W2, rfl⟩ : ∃ W2, W2 = w' := ⟨_, rfl⟩
        refine wp_region_inv' (fun A D a w' => ∃ v76 v77 v78 v79 v80 v81 v82 v83 v84 v85 v86 v87 v88 v12 sb er vs, a = ((((((((((((((A.put (some 76) v76).put (some 77) v77).put (some 78) v78).put (some 79) v79).put (some 80) v80).put (some 81) v81).put (some 82) v82).put (some 83) v83).put (some 84) v84).put (some 85) v85).put (some 86) v86).put (some 87) v87).put (some 88) v88).put (some 12) v12) ∧ (D 12 ∨ Below W2.heap.size W2 w') ∧ (D 0 → v76 = .pointer (some ⟨lb, 0, none⟩)) ∧ (D 1 → v77 = .pointer (some ⟨lb, 0, none⟩)) ∧ (D 2 → v78 = .pointer (some ⟨hb, 1, none⟩)) ∧ (D 3 → v79 = .int .i64 (1 - half)) ∧ (D 4 → v80 = .int .i64 (2 + (1 - half) * hs)) ∧ (D 5 → v81 = .int .i64 (life + 1)) ∧ (D 6 → v82 = .pointer (some ⟨lb, 0, none⟩)) ∧ (D 7 → v83 = .pointer (some ⟨lb, 0, none⟩)) ∧ (D 8 → v84 = .pointer (some ⟨lb, 5, none⟩)) ∧ (D 9 → v85 = .int .i64 seq) ∧ (D 10 → v86 = .slice ra m rc) ∧ (D 11 → v87 = .slice (some ⟨sb, 0, none⟩) m m) ∧ (D 11 → w'.heap[sb]? = some (.cells vs 38 (0, 0)) ∧ ∀ (i : Nat) (ys : List Int), recs[i]? = some ys → ∃ v, vs[i]? = some v ∧ PartAt w' v (recB (life + 1) (seq + (i : Int)) ys)) ∧ (D 12 → v88 = .int .i64 er) ∧ (D 12 → Wrote W2 n₀ p bs bn pv size G0 G1 L left lb (logO p life half first since seq hs used) (wsL (2 + (1 - half) * hs) (laidL (life + 1) seq recs)) er w') ∧ (D 13 → v12 = .int .i64 er)) (by kernel_rfl) (by kernel_rfl) ?mono ?start ?step ?done
        case mono =>
          rintro D D' a w' hD ⟨v76, v77, v78, v79, v80, v81, v82, v83, v84, v85, v86, v87, v88, v12, sb, er, vs, ha, hB, e0, e1, e2, e3, e4, e5, e6, e7, e8, e9, e10, e11, h11, e12, hz, e13⟩
          exact ⟨v76, v77, v78, v79, v80, v81, v82, v83, v84, v85, v86, v87, v88, v12, sb, er, vs, ha, hB.imp_left (hD 12).1, fun h => e0 ((hD 0).2 h), fun h => e1 ((hD 1).2 h), fun h => e2 ((hD 2).2 h), fun h => e3 ((hD 3).2 h), fun h => e4 ((hD 4).2 h), fun h => e5 ((hD 5).2 h), fun h => e6 ((hD 6).2 h), fun h => e7 ((hD 7).2 h), fun h => e8 ((hD 8).2 h), fun h => e9 ((hD 9).2 h), fun h => e10 ((hD 10).2 h), fun h => e11 ((hD 11).2 h), fun h => h11 ((hD 11).2 h), fun h => e12 ((hD 12).2 h), fun h => hz ((hD 12).2 h), fun h => e13 ((hD 13).2 h)⟩
        case start => exact ⟨undef, undef, undef, undef, undef, undef, undef, undef, undef, undef, undef, undef, undef, undef, 0, 0, #[], by kernel_rfl, .inr ((Below.refl _ _).drew), fun h => h.elim, fun h => h.elim, fun h => h.elim, fun h => h.elim, fun h => h.elim, fun h => h.elim, fun h => h.elim, fun h => h.elim, fun h => h.elim, fun h => h.elim, fun h => h.elim, fun h => h.elim, fun h => h.elim, fun h => h.elim, fun h => h.elim, fun h => h.elim⟩
        case step =>
          intro i o ho D a w' hI hn hcl hd
          obtain ⟨v76, v77, v78, v79, v80, v81, v82, v83, v84, v85, v86, v87, v88, v12, sb, er, vs, ha, hB, e0, e1, e2, e3, e4, e5, e6, e7, e8, e9, e10, e11, h11, e12, hz, e13⟩ := hI
          match i, ho with
          | 0, ho =>
            cases Option.some.inj ho
            have ev : a.tmps[0]?.getD undef = .pointer (some ⟨lb, 0, none⟩) := by rw [ha]; kernel_rfl
            refine wp_value (w' := w') (v := .pointer (some ⟨lb, 0, none⟩)) (by simp [execOp, ev, go_sem]) ?_
            exact ⟨(.pointer (some ⟨lb, 0, none⟩)), v77, v78, v79, v80, v81, v82, v83, v84, v85, v86, v87, v88, v12, sb, er, vs, by rw [ha]; kernel_rfl, hB.imp_left .inr, fun _ => rfl, fun h => e1 (h.resolve_left (by decide)), fun h => e2 (h.resolve_left (by decide)), fun h => e3 (h.resolve_left (by decide)), fun h => e4 (h.resolve_left (by decide)), fun h => e5 (h.resolve_left (by decide)), fun h => e6 (h.resolve_left (by decide)), fun h => e7 (h.resolve_left (by decide)), fun h => e8 (h.resolve_left (by decide)), fun h => e9 (h.resolve_left (by decide)), fun h => e10 (h.resolve_left (by decide)), fun h => e11 (h.resolve_left (by decide)), fun h => h11 (h.resolve_left (by decide)), fun h => e12 (h.resolve_left (by decide)), fun h => hz (h.resolve_left (by decide)), fun h => e13 (h.resolve_left (by decide))⟩
          | 1, ho =>
            cases Option.some.inj ho
            have ev : a.tmps[0]?.getD undef = .pointer (some ⟨lb, 0, none⟩) := by rw [ha]; kernel_rfl
            refine wp_value (w' := w') (v := .pointer (some ⟨lb, 0, none⟩)) (by simp [execOp, ev, go_sem]) ?_
            exact ⟨v76, (.pointer (some ⟨lb, 0, none⟩)), v78, v79, v80, v81, v82, v83, v84, v85, v86, v87, v88, v12, sb, er, vs, by rw [ha]; kernel_rfl, hB.imp_left .inr, fun h => e0 (h.resolve_left (by decide)), fun _ => rfl, fun h => e2 (h.resolve_left (by decide)), fun h => e3 (h.resolve_left (by decide)), fun h => e4 (h.resolve_left (by decide)), fun h => e5 (h.resolve_left (by decide)), fun h => e6 (h.resolve_left (by decide)), fun h => e7 (h.resolve_left (by decide)), fun h => e8 (h.resolve_left (by decide)), fun h => e9 (h.resolve_left (by decide)), fun h => e10 (h.resolve_left (by decide)), fun h => e11 (h.resolve_left (by decide)), fun h => h11 (h.resolve_left (by decide)), fun h => e12 (h.resolve_left (by decide)), fun h => hz (h.resolve_left (by decide)), fun h => e13 (h.resolve_left (by decide))⟩
          | 2, ho =>
            cases Option.some.inj ho
            have ev : a.tmps[11]?.getD undef = .pointer (some ⟨hb, 0, none⟩) := by rw [ha]; kernel_rfl
            refine wp_value (w' := w') (v := .pointer (some ⟨hb, 1, none⟩)) (by simp [execOp, ev, go_sem]) ?_
            exact ⟨v76, v77, (.pointer (some ⟨hb, 1, none⟩)), v79, v80, v81, v82, v83, v84, v85, v86, v87, v88, v12, sb, er, vs, by rw [ha]; kernel_rfl, hB.imp_left .inr, fun h => e0 (h.resolve_left (by decide)), fun h => e1 (h.resolve_left (by decide)), fun _ => rfl, fun h => e3 (h.resolve_left (by decide)), fun h => e4 (h.resolve_left (by decide)), fun h => e5 (h.resolve_left (by decide)), fun h => e6 (h.resolve_left (by decide)), fun h => e7 (h.resolve_left (by decide)), fun h => e8 (h.resolve_left (by decide)), fun h => e9 (h.resolve_left (by decide)), fun h => e10 (h.resolve_left (by decide)), fun h => e11 (h.resolve_left (by decide)), fun h => h11 (h.resolve_left (by decide)), fun h => e12 (h.resolve_left (by decide)), fun h => hz (h.resolve_left (by decide)), fun h => e13 (h.resolve_left (by decide))⟩
          | 3, ho =>
            cases Option.some.inj ho
            have ev : a.tmps[78]?.getD undef = .pointer (some ⟨hb, 1, none⟩) := by rw [ha, e2 (hd ⟨2, .data⟩ (by simp) rfl)]; kernel_rfl
            have hb4 := hB.resolve_left (fun h => (fun h => hn (hcl 4 _ rfl h ⟨3, .data⟩ (by simp) rfl)) (hcl 12 _ rfl h ⟨4, .data⟩ (by simp) rfl))
            have hc : w'.cell? ⟨hb, 1, none⟩ = some (.int .i64 (1 - half)) := by rw [cell_of_row _ hb _ _ _ _ ((hb4.block hb (lt_of_block hr2)).trans hr2)]; rfl
            refine wp_value (w' := w') (v := .int .i64 (1 - half)) (by simp [execOp, ev, go_sem, hc]) ?_
            exact ⟨v76, v77, v78, (.int .i64 (1 - half)), v80, v81, v82, v83, v84, v85, v86, v87, v88, v12, sb, er, vs, by rw [ha]; kernel_rfl, hB.imp_left .inr, fun h => e0 (h.resolve_left (by decide)), fun h => e1 (h.resolve_left (by decide)), fun h => e2 (h.resolve_left (by decide)), fun _ => rfl, fun h => e4 (h.resolve_left (by decide)), fun h => e5 (h.resolve_left (by decide)), fun h => e6 (h.resolve_left (by decide)), fun h => e7 (h.resolve_left (by decide)), fun h => e8 (h.resolve_left (by decide)), fun h => e9 (h.resolve_left (by decide)), fun h => e10 (h.resolve_left (by decide)), fun h => e11 (h.resolve_left (by decide)), fun h => h11 (h.resolve_left (by decide)), fun h => e12 (h.resolve_left (by decide)), fun h => hz (h.resolve_left (by decide)), fun h => e13 (h.resolve_left (by decide))⟩
          | 4, ho =>
            cases Option.some.inj ho
            have ev : a.tmps[77]?.getD undef = .pointer (some ⟨lb, 0, none⟩) := by rw [ha, e1 (hd ⟨1, .data⟩ (by simp) rfl)]; kernel_rfl
            have ev' : a.tmps[79]?.getD undef = .int .i64 (1 - half) := by rw [ha, e3 (hd ⟨3, .data⟩ (by simp) rfl)]; kernel_rfl
            have hb4 := hB.resolve_left (fun h => hn (hcl 12 _ rfl h ⟨4, .data⟩ (by simp) rfl))
            refine wp_enter (f := 55) (args := #[.pointer (some ⟨lb, 0, none⟩), .int .i64 (1 - half)]) (by simp [execOp, ev, ev', go_sem]) ?_
            refine (start_any ((hb4.block lb (lt_of_block hl2)).trans hl2) (1 - half) hhalf' hh0 hh1).mono ?_
            rintro e w6 ⟨rfl, rfl⟩
            refine ⟨_, rfl, ?_⟩
            exact ⟨v76, v77, v78, v79, (.int .i64 (2 + (1 - half) * hs)), v81, v82, v83, v84, v85, v86, v87, v88, v12, sb, er, vs, by rw [ha]; kernel_rfl, hB.imp_left .inr, fun h => e0 (h.resolve_left (by decide)), fun h => e1 (h.resolve_left (by decide)), fun h => e2 (h.resolve_left (by decide)), fun h => e3 (h.resolve_left (by decide)), fun _ => rfl, fun h => e5 (h.resolve_left (by decide)), fun h => e6 (h.resolve_left (by decide)), fun h => e7 (h.resolve_left (by decide)), fun h => e8 (h.resolve_left (by decide)), fun h => e9 (h.resolve_left (by decide)), fun h => e10 (h.resolve_left (by decide)), fun h => e11 (h.resolve_left (by decide)), fun h => h11 (h.resolve_left (by decide)), fun h => e12 (h.resolve_left (by decide)), fun h => hz (h.resolve_left (by decide)), fun h => e13 (h.resolve_left (by decide))⟩
          | 5, ho =>
            cases Option.some.inj ho
            have ev : a.tmps[10]?.getD undef = .int .i64 (life + 1) := by rw [ha]; kernel_rfl
            refine wp_value (w' := w') (v := .int .i64 (life + 1)) (by simp [execOp, ev, go_sem]) ?_
            exact ⟨v76, v77, v78, v79, v80, (.int .i64 (life + 1)), v82, v83, v84, v85, v86, v87, v88, v12, sb, er, vs, by rw [ha]; kernel_rfl, hB.imp_left .inr, fun h => e0 (h.resolve_left (by decide)), fun h => e1 (h.resolve_left (by decide)), fun h => e2 (h.resolve_left (by decide)), fun h => e3 (h.resolve_left (by decide)), fun h => e4 (h.resolve_left (by decide)), fun _ => rfl, fun h => e6 (h.resolve_left (by decide)), fun h => e7 (h.resolve_left (by decide)), fun h => e8 (h.resolve_left (by decide)), fun h => e9 (h.resolve_left (by decide)), fun h => e10 (h.resolve_left (by decide)), fun h => e11 (h.resolve_left (by decide)), fun h => h11 (h.resolve_left (by decide)), fun h => e12 (h.resolve_left (by decide)), fun h => hz (h.resolve_left (by decide)), fun h => e13 (h.resolve_left (by decide))⟩
          | 6, ho =>
            cases Option.some.inj ho
            have ev : a.tmps[0]?.getD undef = .pointer (some ⟨lb, 0, none⟩) := by rw [ha]; kernel_rfl
            refine wp_value (w' := w') (v := .pointer (some ⟨lb, 0, none⟩)) (by simp [execOp, ev, go_sem]) ?_
            exact ⟨v76, v77, v78, v79, v80, v81, (.pointer (some ⟨lb, 0, none⟩)), v83, v84, v85, v86, v87, v88, v12, sb, er, vs, by rw [ha]; kernel_rfl, hB.imp_left .inr, fun h => e0 (h.resolve_left (by decide)), fun h => e1 (h.resolve_left (by decide)), fun h => e2 (h.resolve_left (by decide)), fun h => e3 (h.resolve_left (by decide)), fun h => e4 (h.resolve_left (by decide)), fun h => e5 (h.resolve_left (by decide)), fun _ => rfl, fun h => e7 (h.resolve_left (by decide)), fun h => e8 (h.resolve_left (by decide)), fun h => e9 (h.resolve_left (by decide)), fun h => e10 (h.resolve_left (by decide)), fun h => e11 (h.resolve_left (by decide)), fun h => h11 (h.resolve_left (by decide)), fun h => e12 (h.resolve_left (by decide)), fun h => hz (h.resolve_left (by decide)), fun h => e13 (h.resolve_left (by decide))⟩
          | 7, ho =>
            cases Option.some.inj ho
            have ev : a.tmps[82]?.getD undef = .pointer (some ⟨lb, 0, none⟩) := by rw [ha, e6 (hd ⟨6, .data⟩ (by simp) rfl)]; kernel_rfl
            refine wp_value (w' := w') (v := .pointer (some ⟨lb, 0, none⟩)) (by simp [execOp, ev, go_sem]) ?_
            exact ⟨v76, v77, v78, v79, v80, v81, v82, (.pointer (some ⟨lb, 0, none⟩)), v84, v85, v86, v87, v88, v12, sb, er, vs, by rw [ha]; kernel_rfl, hB.imp_left .inr, fun h => e0 (h.resolve_left (by decide)), fun h => e1 (h.resolve_left (by decide)), fun h => e2 (h.resolve_left (by decide)), fun h => e3 (h.resolve_left (by decide)), fun h => e4 (h.resolve_left (by decide)), fun h => e5 (h.resolve_left (by decide)), fun h => e6 (h.resolve_left (by decide)), fun _ => rfl, fun h => e8 (h.resolve_left (by decide)), fun h => e9 (h.resolve_left (by decide)), fun h => e10 (h.resolve_left (by decide)), fun h => e11 (h.resolve_left (by decide)), fun h => h11 (h.resolve_left (by decide)), fun h => e12 (h.resolve_left (by decide)), fun h => hz (h.resolve_left (by decide)), fun h => e13 (h.resolve_left (by decide))⟩
          | 8, ho =>
            cases Option.some.inj ho
            have ev : a.tmps[83]?.getD undef = .pointer (some ⟨lb, 0, none⟩) := by rw [ha, e7 (hd ⟨7, .data⟩ (by simp) rfl)]; kernel_rfl
            refine wp_value (w' := w') (v := .pointer (some ⟨lb, 5, none⟩)) (by simp [execOp, ev, go_sem]) ?_
            exact ⟨v76, v77, v78, v79, v80, v81, v82, v83, (.pointer (some ⟨lb, 5, none⟩)), v85, v86, v87, v88, v12, sb, er, vs, by rw [ha]; kernel_rfl, hB.imp_left .inr, fun h => e0 (h.resolve_left (by decide)), fun h => e1 (h.resolve_left (by decide)), fun h => e2 (h.resolve_left (by decide)), fun h => e3 (h.resolve_left (by decide)), fun h => e4 (h.resolve_left (by decide)), fun h => e5 (h.resolve_left (by decide)), fun h => e6 (h.resolve_left (by decide)), fun h => e7 (h.resolve_left (by decide)), fun _ => rfl, fun h => e9 (h.resolve_left (by decide)), fun h => e10 (h.resolve_left (by decide)), fun h => e11 (h.resolve_left (by decide)), fun h => h11 (h.resolve_left (by decide)), fun h => e12 (h.resolve_left (by decide)), fun h => hz (h.resolve_left (by decide)), fun h => e13 (h.resolve_left (by decide))⟩
          | 9, ho =>
            cases Option.some.inj ho
            have ev : a.tmps[84]?.getD undef = .pointer (some ⟨lb, 5, none⟩) := by rw [ha, e8 (hd ⟨8, .data⟩ (by simp) rfl)]; kernel_rfl
            have hb4 := hB.resolve_left (fun h => (fun h => hn (hcl 11 _ rfl h ⟨9, .data⟩ (by simp) rfl)) (hcl 12 _ rfl h ⟨11, .data⟩ (by simp) rfl))
            have hc := (log_cells ((hb4.block lb (lt_of_block hl2)).trans hl2)).2.2.2.2.2.1
            refine wp_value (w' := w') (v := .int .i64 seq) (by simp [execOp, ev, go_sem, hc]) ?_
            exact ⟨v76, v77, v78, v79, v80, v81, v82, v83, v84, (.int .i64 seq), v86, v87, v88, v12, sb, er, vs, by rw [ha]; kernel_rfl, hB.imp_left .inr, fun h => e0 (h.resolve_left (by decide)), fun h => e1 (h.resolve_left (by decide)), fun h => e2 (h.resolve_left (by decide)), fun h => e3 (h.resolve_left (by decide)), fun h => e4 (h.resolve_left (by decide)), fun h => e5 (h.resolve_left (by decide)), fun h => e6 (h.resolve_left (by decide)), fun h => e7 (h.resolve_left (by decide)), fun h => e8 (h.resolve_left (by decide)), fun _ => rfl, fun h => e10 (h.resolve_left (by decide)), fun h => e11 (h.resolve_left (by decide)), fun h => h11 (h.resolve_left (by decide)), fun h => e12 (h.resolve_left (by decide)), fun h => hz (h.resolve_left (by decide)), fun h => e13 (h.resolve_left (by decide))⟩
          | 10, ho =>
            cases Option.some.inj ho
            have ev : a.tmps[1]?.getD undef = .slice ra m rc := by rw [ha]; kernel_rfl
            refine wp_value (w' := w') (v := .slice ra m rc) (by simp [execOp, ev, go_sem]) ?_
            exact ⟨v76, v77, v78, v79, v80, v81, v82, v83, v84, v85, (.slice ra m rc), v87, v88, v12, sb, er, vs, by rw [ha]; kernel_rfl, hB.imp_left .inr, fun h => e0 (h.resolve_left (by decide)), fun h => e1 (h.resolve_left (by decide)), fun h => e2 (h.resolve_left (by decide)), fun h => e3 (h.resolve_left (by decide)), fun h => e4 (h.resolve_left (by decide)), fun h => e5 (h.resolve_left (by decide)), fun h => e6 (h.resolve_left (by decide)), fun h => e7 (h.resolve_left (by decide)), fun h => e8 (h.resolve_left (by decide)), fun h => e9 (h.resolve_left (by decide)), fun _ => rfl, fun h => e11 (h.resolve_left (by decide)), fun h => h11 (h.resolve_left (by decide)), fun h => e12 (h.resolve_left (by decide)), fun h => hz (h.resolve_left (by decide)), fun h => e13 (h.resolve_left (by decide))⟩
          | 11, ho =>
            cases Option.some.inj ho
            have ev : a.tmps[81]?.getD undef = .int .i64 (life + 1) := by rw [ha, e5 (hd ⟨5, .data⟩ (by simp) rfl)]; kernel_rfl
            have ev' : a.tmps[85]?.getD undef = .int .i64 seq := by rw [ha, e9 (hd ⟨9, .data⟩ (by simp) rfl)]; kernel_rfl
            have ev'' : a.tmps[86]?.getD undef = .slice ra m rc := by rw [ha, e10 (hd ⟨10, .data⟩ (by simp) rfl)]; kernel_rfl
            have hb4 := hB.resolve_left (fun h => hn (hcl 12 _ rfl h ⟨11, .data⟩ (by simp) rfl))
            refine wp_enter (f := 60) (args := #[.int .i64 (life + 1), .int .i64 seq, .slice ra m rc]) (by simp [execOp, ev, ev', ev'', go_sem]) ?_
            refine (lay_any (c := rc) (hrs2.below hb4) hm hm1 hq0 (Int.le_trans (by omega) hq1)).mono ?_
            rintro e w6 ⟨sb', rfl, hsb', vs', A', P', HB⟩
            refine ⟨_, rfl, ?_⟩
            exact ⟨v76, v77, v78, v79, v80, v81, v82, v83, v84, v85, v86, (.slice (some ⟨sb', 0, none⟩) m m), v88, v12, sb', er, vs', by rw [ha]; kernel_rfl, hB.imp .inr (fun h => below_size h (Nat.le_refl _) HB), fun h => e0 (h.resolve_left (by decide)), fun h => e1 (h.resolve_left (by decide)), fun h => e2 (h.resolve_left (by decide)), fun h => e3 (h.resolve_left (by decide)), fun h => e4 (h.resolve_left (by decide)), fun h => e5 (h.resolve_left (by decide)), fun h => e6 (h.resolve_left (by decide)), fun h => e7 (h.resolve_left (by decide)), fun h => e8 (h.resolve_left (by decide)), fun h => e9 (h.resolve_left (by decide)), fun h => e10 (h.resolve_left (by decide)), fun _ => rfl, fun _ => ⟨A', P'⟩, fun h => e12 (h.resolve_left (by decide)), fun h => absurd (h.resolve_left (by decide)) (fun h => hn (hcl 12 _ rfl h ⟨11, .data⟩ (by simp) rfl)), fun h => e13 (h.resolve_left (by decide))⟩
          | 12, ho =>
            cases Option.some.inj ho
            have ev : a.tmps[76]?.getD undef = .pointer (some ⟨lb, 0, none⟩) := by rw [ha, e0 (hd ⟨0, .data⟩ (by simp) rfl)]; kernel_rfl
            have ev' : a.tmps[80]?.getD undef = .int .i64 (2 + (1 - half) * hs) := by rw [ha, e4 (hd ⟨4, .data⟩ (by simp) rfl)]; kernel_rfl
            have ev'' : a.tmps[87]?.getD undef = .slice (some ⟨sb, 0, none⟩) m m := by rw [ha, e11 (hd ⟨11, .data⟩ (by simp) rfl)]; kernel_rfl
            have hb5 := hB.resolve_left hn
            have D5 := D2.same (fun i hi => hb5.block i hi)
            have l5 := (hb5.block lb (lt_of_block hl2)).trans hl2
            obtain ⟨A5, P5⟩ := h11 (hd ⟨11, .data⟩ (by simp) rfl)
            have sl5 : sb ≠ lb := by rintro rfl; rw [l5] at A5; exact absurd (cells_ty A5) (by decide)
            refine wp_enter (f := 54) (args := #[.pointer (some ⟨lb, 0, none⟩), .int .i64 (2 + (1 - half) * hs), .slice (some ⟨sb, 0, none⟩) m m]) (by simp [execOp, ev, ev', ev'', go_sem]) ?_
            refine (logWrite_any D5 l5 hs1 (2 + (1 - half) * hs) hst0 sb m m vs A5 (laidL (life + 1) seq recs) (by rw [laidL_len]; exact hm) (laid_parts P5) (by omega) hst1 hlf0 hlf1 (by omega)).mono ?_
            rintro e w6 ⟨er', rfl, W6⟩
            refine ⟨_, rfl, ?_⟩
            exact ⟨v76, v77, v78, v79, v80, v81, v82, v83, v84, v85, v86, v87, (.int .i64 er'), v12, sb, er', vs, by rw [ha]; kernel_rfl, .inl (.inl rfl), fun h => e0 (h.resolve_left (by decide)), fun h => e1 (h.resolve_left (by decide)), fun h => e2 (h.resolve_left (by decide)), fun h => e3 (h.resolve_left (by decide)), fun h => e4 (h.resolve_left (by decide)), fun h => e5 (h.resolve_left (by decide)), fun h => e6 (h.resolve_left (by decide)), fun h => e7 (h.resolve_left (by decide)), fun h => e8 (h.resolve_left (by decide)), fun h => e9 (h.resolve_left (by decide)), fun h => e10 (h.resolve_left (by decide)), fun h => e11 (h.resolve_left (by decide)), fun h => ⟨W6.kept D5 A5 (by decide) (by decide) sl5, fun i ys hi => by obtain ⟨v, h1, h2⟩ := P5 i ys hi; exact ⟨v, h1, h2.keep (fun g c t hg k1 k2 k3 => (W6.kept D5 hg k1 k2 (by rintro rfl; rw [l5] at hg; exact absurd (cells_ty hg) (Ne.symm k3))).trans hg.symm)⟩⟩, fun _ => rfl, fun _ => W6.from hb5, fun h => absurd (h.resolve_left (by decide)) (fun h => hn (hcl 13 _ rfl h ⟨12, .data⟩ (by simp) rfl))⟩
          | 13, ho =>
            cases Option.some.inj ho
            have ev : a.tmps[88]?.getD undef = .int .i64 er := by rw [ha, e12 (hd ⟨12, .data⟩ (by simp) rfl)]; kernel_rfl
            refine wp_value (w' := w') (v := .int .i64 er) (by simp [execOp, ev, go_sem]) ?_
            exact ⟨v76, v77, v78, v79, v80, v81, v82, v83, v84, v85, v86, v87, v88, (.int .i64 er), sb, er, vs, by rw [ha]; kernel_rfl, hB.imp_left .inr, fun h => e0 (h.resolve_left (by decide)), fun h => e1 (h.resolve_left (by decide)), fun h => e2 (h.resolve_left (by decide)), fun h => e3 (h.resolve_left (by decide)), fun h => e4 (h.resolve_left (by decide)), fun h => e5 (h.resolve_left (by decide)), fun h => e6 (h.resolve_left (by decide)), fun h => e7 (h.resolve_left (by decide)), fun h => e8 (h.resolve_left (by decide)), fun h => e9 (h.resolve_left (by decide)), fun h => e10 (h.resolve_left (by decide)), fun h => e11 (h.resolve_left (by decide)), fun h => h11 (h.resolve_left (by decide)), fun h => e12 (h.resolve_left (by decide)), fun h => hz (h.resolve_left (by decide)), fun _ => rfl⟩
          | i + 14, ho => simp at ho
        case done =>
          rintro D a w' ⟨v76, v77, v78, v79, v80, v81, v82, v83, v84, v85, v86, v87, v88, v12, sb, er, vs, ha, hB, e0, e1, e2, e3, e4, e5, e6, e7, e8, e9, e10, e11, h11, e12, hz, e13⟩ hall
          have W6 := hz (hall 12 (by decide))
          obtain rfl := e0 (hall 0 (by decide))
          obtain rfl := e1 (hall 1 (by decide))
          obtain rfl := e2 (hall 2 (by decide))
          obtain rfl := e3 (hall 3 (by decide))
          obtain rfl := e4 (hall 4 (by decide))
          obtain rfl := e5 (hall 5 (by decide))
          obtain rfl := e6 (hall 6 (by decide))
          obtain rfl := e7 (hall 7 (by decide))
          obtain rfl := e8 (hall 8 (by decide))
          obtain rfl := e9 (hall 9 (by decide))
          obtain rfl := e10 (hall 10 (by decide))
          obtain rfl := e11 (hall 11 (by decide))
          obtain rfl := e12 (hall 12 (by decide))
          obtain rfl := e13 (hall 13 (by decide))
          clear hz hall hB h11 e0 e1 e2 e3 e4 e5 e6 e7 e8 e9 e10 e11 e12 e13
          rw [ha]
          clear ha
          simp only [Act.put, List.setIfInBounds_toArray, List.set_cons_zero, List.set_cons_succ]
          have r6 := W6.kept D2 hr2 (by decide) (by decide) (by rintro rfl; rw [hl2] at hr2; exact absurd (cells_ty hr2) (by decide))
          have W7 := W6.from B2
          clear W6 D2 hl2 hr2 B2 hrs2
          rcases W7 with ⟨rfl, ho, D6, l6, F6⟩ | ⟨rfl, j, pv6, hj, ho, D6, l6, F6⟩
          rotate_left
          · rw [hwlen] at hj
            replace ho : Hid (left = (j : Int) + 1) := ho
            go_wp2
            go_ret
            exact .inr (.inl ⟨rfl, ⟨j, hj, ho.out, pv6, D6⟩, F6⟩)
          rw [hwlen] at ho D6
          go_wp2_with (first | (refine wpList_value rfl (run_load80 rfl rfl r6) ?_) | fail)
          refine (take_any D6 l6 hs0 hs1 (by simp) (by omega) (by omega) (life + 1) (1 - half) seq (life + 1) (by omega)).mono ?_
          rintro e w7 (⟨rfl, ho2, D8, L8, F8⟩ | ⟨rfl, ho2, pv8, D8, L8, F8⟩)
          rotate_left
          · have Ff : Fl lb p bs bn W pv w7 := ⟨F8.os.trans F6.os, F8.tape.trans F6.tape, F8.output.trans F6.output, Nat.le_trans F6.size F8.size, fun i hi k0 k1 k2 k3 k4 => (F8.keep i (by have := F6.size; omega) k0 k1 k2 k3 (by simp [Value.ownBlock])).trans (F6.keep i hi k0 k1 k2 k3 k4)⟩
            clear D6 l6 r6 F6 F8 L8
            go_wp2
            go_ret
            exact .inr (.inr ⟨rfl, by omega, ⟨pv8, D8⟩, Ff⟩)
          have ap := D8.apart (b := lb) (t := 89) L8 (by decide) (by decide)
          have a7 := (log_cells L8).2.2.2.2.2.2.2.1
          have f7 := (log_cells L8).2.2.2.2.2.2.2.2.2 7
          have L9 := log_set7 L8 (T : Int)
          have a5 := (log_cells L9).2.2.2.2.2.1
          have f5 := (log_cells L9).2.2.2.2.2.2.2.2.2 5
          have L10 := log_set5 L9 (seq + (m : Int))
          have N10 := ((But.refl lb w7).set (i := 7) (v := .int .i64 (T : Int))).set (i := 5) (v := .int .i64 (seq + (m : Int)))
          have D10 := D8.but N10 ap
          rw [show max 0 (max 0 (left - (T : Int)) - 1) = max 0 (left - ((T : Int) + 1)) by omega, List.nil_append] at D10
          have Ff : Fl lb p bs bn W pv ((w7.setCell ⟨lb, 7, none⟩ (.int .i64 (T : Int))).setCell ⟨lb, 5, none⟩ (.int .i64 (seq + (m : Int)))) := ⟨N10.os.trans (F8.os.trans F6.os), N10.tape.trans (F8.tape.trans F6.tape), N10.output.trans (F8.output.trans F6.output), Nat.le_trans F6.size (Nat.le_trans F8.size N10.size), fun i hi k0 k1 k2 k3 k4 => (N10.block i (by have := F6.size; have := F8.size; omega) k0).trans ((F8.keep i (by have := F6.size; omega) k0 k1 k2 k3 (by simp [Value.ownBlock])).trans (F6.keep i hi k0 k1 k2 k3 k4))⟩
          have hoo : left = 0 ∨ (T : Int) + 1 < left := by omega
          clear D6 l6 r6 F6 F8 D8 ap N10 ho ho2
          go_wp2
          go_ret
          exact .inl ⟨rfl, hoo, D10, L10, Ff⟩
    · have hl2 : (i : Int) < (m : Int) := by omega
      obtain ⟨ys, hys⟩ : ∃ ys, recs[i]? = some ys := ⟨_, List.getElem?_eq_getElem (by omega)⟩
      obtain ⟨b, off, x, rfl, hb, hx, ⟨⟨g, o, cc, rfl, _⟩, _, y0, y1⟩⟩ := hrs.cell i ys hys
      have esum : secR (recs.take (i + 1)) = secR (recs.take i) + (ys.length + 111) / 112 := by
        rw [List.take_add_one, hys]
        exact secR_snoc _ _
      have hle := secR_take recs (i + 1)
      rw [hT.out] at hle
      obtain ⟨k, hk⟩ : ∃ k : Nat, Hid ((ys.length + 111) / 112 = k) := ⟨_, rfl⟩
      have hks : secs (ys.length : Int) = (k : Int) := by
        have := hk.out
        unfold secs
        rw [if_neg (by omega)]
        omega
      rw [hk.out] at esum
      obtain ⟨t, ht⟩ : ∃ t : Nat, Hid (secR (recs.take i) = t) := ⟨_, rfl⟩
      rw [ht.out] at esum ⊢
      have hw1 : IntKind.i64.wrap ((i : Int) + 1) = (i : Int) + 1 := by rw [IntKind.wrap_i64]; omega
      have hw2 : IntKind.i64.wrap ((t : Int) + (k : Int)) = (t : Int) + (k : Int) := by rw [IntKind.wrap_i64]; omega
      have fin : ∃ i' : Nat, i' ≤ m ∧ Value.int .i64 ((i : Int) + 1) = .int .i64 (i' : Int) ∧ Value.int .i64 ((t : Int) + (k : Int)) = .int .i64 (secR (recs.take i') : Int) := ⟨i + 1, by omega, by push_cast; rfl, by rw [esum]; push_cast; rfl⟩
      clear esum hle
      go_wp2_with fail
      refine (sectors_any (ys.length : Int) wr).mono ?_
      rintro e w1 ⟨rfl, rfl⟩
      rw [hks]
      go_wp2
      go_roundw
      case rel =>
        obtain ⟨i', h1, h2, h3⟩ := fin
        exact ⟨i', h1, h2, h3, trivial⟩
      case measure => simp [intOf]; omega
end
end Go.Proofs.Ytofgphiamllmdab
