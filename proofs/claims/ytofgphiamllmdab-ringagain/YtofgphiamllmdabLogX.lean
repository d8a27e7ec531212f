/- Log.write of any parts, on a device that may fail. -/
import Derived.Test.YtofgphiamllmdabEval
namespace Go.Proofs.Ytofgphiamllmdab
open Go.RowKit
set_option maxRecDepth 100000

/-- The writes of some parts, one behind the other. -/
def wsL : Int → List (List Int) → List (Int × List Int)
  | _, [] => []
  | at', xs :: t => wsP at' xs (List.finRange (xs.length / 128)) ++ wsL (at' + ((xs.length / 128 : Nat) : Int)) t
/-- How many sectors some parts take. -/
def secsL : List (List Int) → Nat
  | [] => 0
  | xs :: t => xs.length / 128 + secsL t
theorem wsL_len : ∀ (at' : Int) (ps : List (List Int)), (wsL at' ps).length = secsL ps
  | _, [] => rfl
  | at', xs :: t => by simp only [wsL, secsL, List.length_append, wsP_len, List.length_finRange, wsL_len]
theorem secsL_snoc (ps : List (List Int)) (xs : List Int) : secsL (ps ++ [xs]) = secsL ps + xs.length / 128 := by
  induction ps with
  | nil => simp [secsL]
  | cons x t ih => simp only [List.cons_append, secsL, ih]; omega
theorem wsL_snoc : ∀ (at' : Int) (ps : List (List Int)) (xs : List Int), wsL at' (ps ++ [xs]) = wsL at' ps ++ wsP (at' + (secsL ps : Int)) xs (List.finRange (xs.length / 128))
  | at', [], xs => by simp [wsL, secsL]
  | at', x :: t, xs => by
    simp only [List.cons_append, wsL, wsL_snoc, List.append_assoc, secsL]
    rw [show at' + ((x.length / 128 : Nat) : Int) + (secsL t : Int) = at' + ((x.length / 128 + secsL t : Nat) : Int) by push_cast; omega]
theorem wsL_more : ∀ (at' : Int) (A C : List (List Int)), ∃ R, wsL at' (A ++ C) = wsL at' A ++ R
  | at', [], C => ⟨wsL at' C, by simp [wsL]⟩
  | at', x :: t, C => by
    obtain ⟨R, hR⟩ := wsL_more (at' + ((x.length / 128 : Nat) : Int)) t C
    exact ⟨R, by simp only [List.cons_append, wsL, hR, List.append_assoc]⟩
theorem secsL_take (ps : List (List Int)) (i : Nat) : secsL (ps.take i) ≤ secsL ps := by
  induction ps generalizing i with
  | nil => simp [secsL]
  | cons x t ih =>
    cases i with
    | zero => simp [secsL]
    | succ i => simp only [List.take_succ_cons, secsL]; have := ih i; omega
theorem appl_append (G : Int → List Int) (A B : List (Int × List Int)) : appl G (A ++ B) = appl (appl G A) B := by simp [appl, List.foldl_append]
/-- A part in memory: some sectors, in a block that is none of a device's. -/
def PartAt (w : World) (v : Value) (xs : List Int) : Prop := ∃ ob cap c t, v = .slice (some ⟨ob, 0, none⟩) xs.length cap ∧ xs.length ≤ cap ∧ cap ≤ maxLen ∧ w.heap[ob]? = some (.cells c t (0, 0)) ∧ t ≠ 104 ∧ t ≠ 107 ∧ t ≠ 89 ∧ Bytes w ob 0 xs ∧ xs.length = 128 * (xs.length / 128) ∧ 0 < xs.length
theorem PartAt.keep {w w' : World} {v : Value} {xs : List Int} (h : PartAt w v xs) (hk : ∀ (g : Nat) (c : Array Value) (t : Nat), w.heap[g]? = some (.cells c t (0, 0)) → t ≠ 104 → t ≠ 107 → t ≠ 89 → w'.heap[g]? = w.heap[g]?) : PartAt w' v xs := by
  obtain ⟨ob, cap, c, t, h1, h2, h3, h4, h5, h6, h7, h8, h9⟩ := h
  have e := hk ob c t h4 h5 h6 h7
  refine ⟨ob, cap, c, t, h1, h2, h3, e.trans h4, h5, h6, h7, ⟨h8.byte, fun i hi => ?_⟩, h9⟩
  rw [← h8.cell i hi]
  unfold World.cell?
  simp only [e]
section
variable {w : World} {n₀ p bs bn : Nat} {pv : Value} {size : Int} {G0 G1 : Int → List Int} {L : List (Int × List Int)} {left : Int}
variable {lb : Nat} {life half first since seq hs used : Int}
theorem wsP_take {m : Nat} (at' : Int) (xs : List Int) (pre : List (Fin m)) (j : Nat) : wsP at' xs (pre.take j) = (wsP at' xs pre).take j := by
  unfold wsP
  rw [← List.map_take]
  congr 1
  apply List.ext_getElem?
  intro i
  by_cases h : i < j
  · rw [List.getElem?_take_of_lt h, List.getElem?_zipIdx, List.getElem?_zipIdx, List.getElem?_take_of_lt h]
  · rw [List.getElem?_eq_none (by simp; omega), List.getElem?_eq_none (by simp; omega)]
/-- All but a log's block and a device's is as it was. -/
structure Fl (lb p bs bn : Nat) (w : World) (pv : Value) (w' : World) : Prop where
  os : w'.os = w.os
  tape : w'.tape = w.tape
  output : w'.output = w.output
  size : w.heap.size ≤ w'.heap.size
  keep : ∀ i, i < w.heap.size → i ≠ lb → i ≠ p → i ≠ bs → i ≠ bn → pv.ownBlock ≠ some i → w'.heap[i]? = w.heap[i]?
theorem Fr.fl {w' : World} {pv' : Value} (h : Fr p bs bn w pv w' pv') (lb : Nat) : Fl lb p bs bn w pv w' := ⟨h.os, h.tape, h.output, h.size, fun i hi _ h1 h2 h3 h4 => (h.keep i hi h1 h2 h3 h4).1⟩
/-- What becomes of some writes and a flush: all are done, or the device dies within them (and the log knows). -/
def Wrote (w : World) (n₀ p bs bn : Nat) (pv : Value) (size : Int) (G0 G1 : Int → List Int) (L : List (Int × List Int)) (left : Int) (lb : Nat) (lg : Bool → Obj) (ws : List (Int × List Int)) (r : Int) (w' : World) : Prop :=
  (r = 0 ∧ (left = 0 ∨ (ws.length : Int) < left) ∧ Dev w' n₀ p bs bn (.slice none 0 0) size (appl G0 (L ++ ws)) (appl G1 ws) [] (max 0 (left - (ws.length : Int))) false ∧ w'.heap[lb]? = some (lg false) ∧ Fl lb p bs bn w pv w') ∨
  (r = 14 ∧ ∃ j pv', j < ws.length ∧ left = (j : Int) + 1 ∧ Dev w' n₀ p bs bn pv' size G0 (appl G1 (ws.take j)) (L ++ ws.take j) 1 true ∧ w'.heap[lb]? = some (lg true) ∧ Fl lb p bs bn w pv w')
theorem log_set8 (h : w.heap[lb]? = some (logO p life half first since seq hs used false)) : (w.setCell ⟨lb, 8, none⟩ (.bool true)).heap[lb]? = some (logO p life half first since seq hs used true) := by
  unfold logO at h ⊢
  rw [heap_setCell_same w lb 8 _ _ _ h]
  simp
set_option maxHeartbeats 8000000 in
theorem logWrite_any (D0 : Dev w n₀ p bs bn pv size G0 G1 L left false) (hlg : w.heap[lb]? = some (logO p life half first since seq hs used false)) (hs1 : size ≤ 4096) (at' : Int) (h0 : 0 ≤ at') (sb m cap : Nat) (vs : Array Value) (hv : w.heap[sb]? = some (.cells vs 38 (0, 0))) (ps : List (List Int)) (hps : ps.length = m) (hpt : ∀ (i : Nat) (xs : List Int), ps[i]? = some xs → ∃ v, vs[i]? = some v ∧ PartAt w v xs) (hm : m ≤ 1000000) (hfit : at' + (secsL ps : Int) ≤ size) (hl0 : 0 ≤ left) (hl1 : left ≤ 9223372036854775807) (hL : L.length ≤ 999980000) :
    Calls Try.prog 54 #[.pointer (some ⟨lb, 0, none⟩), .int .i64 at', .slice (some ⟨sb, 0, none⟩) m cap] w fun e w' => ∃ r, e = .returned (.int .i64 r) ∧ Wrote w n₀ p bs bn pv size G0 G1 L left lb (logO p life half first since seq hs used) (wsL at' ps) r w' := by
  have hsz : 0 ≤ size := by omega
  go_enter Try.func54, Try.ntmps54
  go_wp2
  go_loopw [1, 12] (fun av iv wr => ∃ (i : Nat) (pv' : Value), i ≤ m ∧ iv = .int .i64 (i : Int) ∧ av = .int .i64 (at' + (secsL (ps.take i) : Int)) ∧ Dev wr n₀ p bs bn pv' size G0 (appl G1 (wsL at' (ps.take i))) (L ++ wsL at' (ps.take i)) (max 0 (left - (secsL (ps.take i) : Int))) false ∧ (left = 0 ∨ (secsL (ps.take i) : Int) < left) ∧ Fr p bs bn w pv wr pv') (fun _ iv _ => m - (intOf iv).toNat)
  case atStart =>
    refine ⟨0, pv, by omega, rfl, by simp [secsL], ?_, ?_, Fr.refl _ _ _ _ _⟩
    · have e : max 0 (left - ((secsL (ps.take 0) : Nat) : Int)) = left := by simp [secsL]; omega
      rw [e]
      simpa [wsL, appl_nil] using D0
    · simp [secsL]; omega
  case round =>
    obtain ⟨i, pv', hi, rfl, rfl, D, hleft, F⟩ := hrel
    have hlr : wr.heap[lb]? = some (logO p life half first since seq hs used false) := F.cells D0 hlg (by decide) (by decide)
    obtain ⟨c0, c1, c2, c3, c4, c5, c6, c7, c8, cf⟩ := log_cells hlr
    by_cases him : i = m
    · subst him
      have e : ps.take i = ps := List.take_of_length_le (by omega)
      rw [e] at D hleft ⊢
      have hlt : ¬ (i : Int) < (i : Int) := by omega
      go_wp2_with fail
      refine (Flush_some D (by rw [List.length_append, wsL_len]; omega)).mono ?_
      rintro e w2 ⟨rfl, D2, F2⟩
      clear c0 c1 c2 c3 c4 c5 c6 c7 c8 cf
      have l2 : w2.heap[lb]? = some (logO p life half first since seq hs used false) := F2.cells D hlr (by decide) (by decide)
      have F3 := F.trans F2
      go_wp2_with fail
      refine (told_other _ 0 (by decide)).mono ?_
      rintro e w3 ⟨rfl, rfl⟩
      go_wp2
      go_ret
      exact ⟨0, rfl, .inl ⟨rfl, by rw [wsL_len]; exact hleft, by rw [wsL_len]; exact D2, l2, F3.fl lb⟩⟩
    · have hlt : (i : Int) < (m : Int) := by omega
      obtain ⟨xs, hxs⟩ : ∃ xs, ps[i]? = some xs := ⟨_, List.getElem?_eq_getElem (by omega)⟩
      obtain ⟨v, hvi, hpa⟩ := hpt i xs hxs
      have hvr := F.cells D0 hv (by decide) (by decide)
      have hpr := hpa.keep (w' := wr) (fun g c t hg h1 h2 _ => (F.cells D0 hg h1 h2).trans hg.symm)
      obtain ⟨ob, oc, oo, ot, rfl, ho1, ho2, ho3, ho4, ho5, _, ho6, ho7, ho8⟩ := hpr
      have q0 : wr.cell? ⟨sb, i, none⟩ = some (.slice (some ⟨ob, 0, none⟩) xs.length oc) := by rw [cell_of_row _ sb _ _ _ _ hvr]; exact hvi
      obtain ⟨k, hk⟩ : ∃ k, Hid (xs.length / 128 = k) := ⟨_, rfl⟩
      rw [hk.out] at ho7
      have hk0 : 0 < k := by omega
      have etk : ps.take (i + 1) = ps.take i ++ [xs] := by rw [List.take_add_one, hxs]; rfl
      have esum : secsL (ps.take (i + 1)) = secsL (ps.take i) + k := by rw [etk, secsL_snoc, hk.out]
      have ews : wsL at' (ps.take (i + 1)) = wsL at' (ps.take i) ++ wsP (at' + (secsL (ps.take i) : Int)) xs (List.finRange k) := by rw [etk, wsL_snoc, hk.out]
      have hle := secsL_take ps (i + 1)
      have hlen := wsL_len at' (ps.take i)
      obtain ⟨T, hT⟩ : ∃ T, Hid (secsL (ps.take i) = T) := ⟨_, rfl⟩
      rw [hT.out] at D hleft esum ews hlen ⊢
      have d5 := D.apart ho3 ho4 ho5
      have hW := Write_some D hs1 (at' + (T : Int)) (by omega) ob 0 oc k (by omega) ho2 hk0 (by omega) xs ho7 ho6 (lt_of_block ho3) d5.1 d5.2.1 d5.2.2.1 d5.2.2.2 (by omega) (by omega) (by rw [List.length_append, hlen]; omega)
      rw [ho7] at q0
      clear D0 hpt hpa hvi hv
      go_wp2_with fail
      refine hW.mono ?_
      clear hW
      rintro e w1 (⟨rfl, _, hl', pv1, D1, F1⟩ | ⟨rfl, j, hj, hd, pv1, D1, F1⟩)
      · have l1 : w1.heap[lb]? = some (logO p life half first since seq hs used false) := F1.cells D hlr (by decide) (by decide)
        rw [← appl_append, List.append_assoc, ← ews, List.length_finRange] at D1
        have em : max 0 (max 0 (left - (T : Int)) - (k : Int)) = max 0 (left - ((T + k : Nat) : Int)) := by omega
        rw [em] at D1
        have F2 := F.trans F1
        clear c0 c1 c2 c3 c4 c5 c6 c7 c8 cf q0 em
        unfold maxLen at ho2
        have hd1 : (128 * (k : Int)).tdiv 128 = (k : Int) := by rw [Int.tdiv_eq_ediv_of_nonneg (by omega)]; omega
        have hw1 : IntKind.i64.wrap (k : Int) = (k : Int) := by rw [IntKind.wrap_i64]; omega
        have hw2 : IntKind.i64.wrap (at' + (T : Int) + (k : Int)) = at' + (T : Int) + (k : Int) := by rw [IntKind.wrap_i64]; omega
        have hw3 : IntKind.i64.wrap ((i : Int) + 1) = (i : Int) + 1 := by rw [IntKind.wrap_i64]; omega
        have fin : ∃ (i' : Nat) (pv' : Value), i' ≤ m ∧ Value.int .i64 ((i : Int) + 1) = .int .i64 (i' : Int) ∧ Value.int .i64 (at' + (T : Int) + (k : Int)) = .int .i64 (at' + (secsL (ps.take i') : Int)) ∧ Dev w1 n₀ p bs bn pv' size G0 (appl G1 (wsL at' (ps.take i'))) (L ++ wsL at' (ps.take i')) (max 0 (left - (secsL (ps.take i') : Int))) false ∧ (left = 0 ∨ (secsL (ps.take i') : Int) < left) ∧ Fr p bs bn w pv w1 pv' :=
          ⟨i + 1, pv1, by omega, by push_cast; rfl, by rw [esum, show at' + (T : Int) + (k : Int) = at' + ((T + k : Nat) : Int) by omega], by rw [esum]; exact D1, by rw [esum]; omega, F2⟩
        clear D F F1 D1 F2 etk ews esum hle hleft hl' hT
        go_wp2
        go_roundw
        case rel => exact fin
        case measure => simp [intOf]; omega
      · have hj2 : left = (T : Int) + (j : Int) + 1 := by
          rcases hd with ⟨hd, _⟩ | ⟨_, hd⟩
          · cases hd
          · omega
        have l1 : w1.heap[lb]? = some (logO p life half first since seq hs used false) := F1.cells D hlr (by decide) (by decide)
        have hln : ((List.finRange k).take j).length = j := by rw [List.length_take, List.length_finRange]; omega
        rw [← appl_append, List.append_assoc, wsP_take, hln] at D1
        have em : max 0 (max 0 (left - (T : Int)) - (j : Int)) = 1 := by omega
        rw [em] at D1
        have etake : Hid ((wsL at' ps).take (T + j) = wsL at' (ps.take i) ++ (wsP (at' + (T : Int)) xs (List.finRange k)).take j) := by
          show _ = _
          have e1 : ps = ps.take (i + 1) ++ ps.drop (i + 1) := (List.take_append_drop _ _).symm
          have e2 : ∃ R, wsL at' ps = wsL at' (ps.take (i + 1)) ++ R := by
            obtain ⟨R, hR⟩ := wsL_more at' (ps.take (i + 1)) (ps.drop (i + 1))
            rw [← e1] at hR
            exact ⟨R, hR⟩
          obtain ⟨R, e3⟩ := e2
          rw [e3, ews, List.append_assoc, List.take_append, hlen, List.take_of_length_le (by omega), show T + j - T = j by omega, List.take_append_of_le_length (by rw [wsP_len, List.length_finRange]; omega)]
        rw [← etake.out] at D1
        have hjl : T + j < (wsL at' ps).length := by rw [wsL_len]; omega
        have ap := D1.apart l1 (by decide) (by decide)
        have F2 := F.trans F1
        clear c0 c1 c2 c3 c4 c5 c6 c7 c8 cf q0 em etake
        have c8 := (log_cells l1).2.2.2.2.2.2.2.2.1
        have L8 := log_set8 l1
        have N8 := (But.refl lb w1).set (i := 8) (v := .bool true)
        have D8 := D1.but N8 ap
        have Fl8 : Fl lb p bs bn w pv (w1.setCell ⟨lb, 8, none⟩ (.bool true)) := ⟨F2.os, F2.tape, F2.output, by simpa using F2.size, fun a ha k0 k1 k2 k3 k4 => (heap_setCell_other _ _ _ _ k0).trans (F2.keep a ha k1 k2 k3 k4).1⟩
        clear D F F1 F2 etk ews esum hle hleft hT D1 N8
        go_wp2_with fail
        refine (told_dead l1).mono ?_
        rintro e w3 ⟨rfl, rfl⟩
        go_wp2
        go_ret
        exact ⟨14, rfl, .inr ⟨rfl, T + j, pv1, hjl, by push_cast; omega, D8, L8, Fl8⟩⟩
end
end Go.Proofs.Ytofgphiamllmdab
