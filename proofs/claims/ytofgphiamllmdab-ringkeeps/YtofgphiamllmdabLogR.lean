/- Log.read. -/
import Derived.Test.YtofgphiamllmdabRecR
import Derived.Test.YtofgphiamllmdabWr
import Derived.BigQuiet
import Derived.Deep.QuietTactic
namespace Go.Proofs.Ytofgphiamllmdab
open Go.RowKit
set_option maxRecDepth 100000

/-- What Log.read answers: the records, how many sectors they take, the next one's number. -/
def rdLog (g : Nat → List Int) (m : Nat) (hl : Int) : Nat → Nat → Int → Int → List (List Int) → List (List Int) × Nat × Int
  | 0, U, sq, _, recs => (recs, U, sq)
  | f + 1, U, sq, life, recs => match rdRec (fun k => g (U + k)) sq (m - U) 0 0 [] with
    | none => (recs, U, sq)
    | some (l, ys) => if l < life ∨ hl < l then (recs, U, sq) else rdLog g m hl f (U + (ys.length + 111) / 112) (sq + 1) l (recs ++ [ys])
theorem rdRec_some (g : Nat → List Int) (seq : Int) : ∀ (r j : Nat) (life : Int) (acc : List Int) (l : Int) (ys : List Int), (∀ k, k < j + r → IsSec (g k)) → acc.length = 112 * j → rdRec g seq r j life acc = some (l, ys) → ys.length ≤ 60000 ∧ 112 * j < ys.length ∧ (ys.length + 111) / 112 ≤ j + r
  | 0, _, _, _, _, _, _, _, h => by cases h
  | r + 1, j, life, acc, l, ys, hg, ha, h => by
    unfold rdRec at h
    have hS := hg j (by omega)
    rcases hp : rdPiece (g j) with _ | ⟨l', q, p, last, n⟩
    · rw [hp] at h; cases h
    · rw [hp] at h
      obtain ⟨k1, k2, k3⟩ := rdPiece_len hp
      have hlen : (acc ++ ((g j).drop 16).take n).length = 112 * j + n := by rw [List.length_append, ha, List.length_take, List.length_drop, hS.len]; omega
      simp only [] at h
      split at h
      · cases h
      · split at h
        · cases h
        · rename_i hle
          rw [hlen] at hle
          cases last
          · rw [if_neg (by simp)] at h
            have := rdRec_some g seq r (j + 1) l' _ l ys (fun k hk => hg k (by omega)) (by rw [hlen, k3 rfl]; omega) h
            omega
          · rw [if_pos rfl] at h
            injection h with h
            injection h with h1 h2
            subst h2
            rw [hlen]
            omega
/-- All but one block is as it was. -/
structure But (b : Nat) (w w' : World) : Prop where
  os : w'.os = w.os
  tape : w'.tape = w.tape
  output : w'.output = w.output
  size : w.heap.size ≤ w'.heap.size
  block : ∀ i, i < w.heap.size → i ≠ b → w'.heap[i]? = w.heap[i]?
theorem But.refl (b : Nat) (w : World) : But b w w := ⟨rfl, rfl, rfl, Nat.le_refl _, fun _ _ _ => rfl⟩
theorem But.below {b : Nat} {w w1 w2 : World} (h : But b w w1) (k : Below w1.heap.size w1 w2) : But b w w2 := ⟨k.os.trans h.os, k.tape.trans h.tape, k.output.trans h.output, Nat.le_trans h.size k.size, fun i hi hb => (k.block i (by have := h.size; omega)).trans (h.block i hi hb)⟩
theorem But.set {b i : Nat} {w w1 : World} {v : Value} (h : But b w w1) : But b w (w1.setCell ⟨b, i, none⟩ v) := ⟨h.os, h.tape, h.output, by simpa using h.size, fun j hj hb => (heap_setCell_other _ _ _ _ hb).trans (h.block j hj hb)⟩
theorem But.grown {b n₀ e sz n : Nat} {w w1 w2 : World} {v : Value} {xs : List Value} (h : But b w w1) (O : w1.ownsRow n₀ e sz v n xs) (hn : w.heap.size ≤ n₀) (G : w1.grownBy w2 v.ownBlock) : But b w w2 :=
  ⟨G.os.trans h.os, G.tape.trans h.tape, G.output.trans h.output, Nat.le_trans h.size G.size, fun i hi hb => (G.block i (by have := h.size; omega) (fun e => by obtain ⟨k, _⟩ := own_block O e.symm; omega)).trans (h.block i hi hb)⟩
/-- Records in memory of a call's own. -/
def Recs (w : World) (n₀ : Nat) (v : Value) (recs : List (List Int)) : Prop := ∃ vs, w.ownsRow n₀ 38 1 v recs.length vs ∧ ∀ (i : Nat) (ys : List Int), recs[i]? = some ys → ∃ x, vs[i]? = some x ∧ 0 < ys.length ∧ w.ownsRow n₀ 5 1 x ys.length (ys.map (Value.int .u8))
theorem Recs.nil (w : World) (n₀ : Nat) : Recs w n₀ (.slice none 0 0) [] := ⟨[], World.ownsRow_nil _ _ _ _, fun i ys h => by simp at h⟩
theorem Recs.keep {w w' : World} {n₀ : Nat} {v : Value} {recs : List (List Int)} (h : Recs w n₀ v recs) (hk : ∀ g c t, w.heap[g]? = some (.cells c t (0, 0)) → t = 5 ∨ t = 38 → n₀ ≤ g → w'.heap[g]? = w.heap[g]?) : Recs w' n₀ v recs := by
  obtain ⟨vs, h1, h2⟩ := h
  refine ⟨vs, own_same h1 (fun g hg => ?_), fun i ys hi => ?_⟩
  · obtain ⟨hn, cur, hh⟩ := own_block h1 hg
    exact hk g cur 38 hh (.inr rfl) hn
  · obtain ⟨x, h3, h4, h5⟩ := h2 i ys hi
    refine ⟨x, h3, h4, own_same h5 (fun g hg => ?_)⟩
    obtain ⟨hn, cur, hh⟩ := own_block h5 hg
    exact hk g cur 5 hh (.inl rfl) hn
theorem Recs.below {w w' : World} {n₀ : Nat} {v : Value} {recs : List (List Int)} (h : Recs w n₀ v recs) (k : Below w.heap.size w w') : Recs w' n₀ v recs := h.keep (fun g _ _ hg _ _ => k.block g (lt_of_block hg))
theorem Recs.set {w : World} {n₀ b i : Nat} {v x : Value} {recs : List (List Int)} {c : Array Value} {t : Nat} (h : Recs w n₀ v recs) (hb : w.heap[b]? = some (.cells c t (0, 0))) (h5 : t ≠ 5) (h38 : t ≠ 38) : Recs (w.setCell ⟨b, i, none⟩ x) n₀ v recs := h.keep (fun g c' t' hg ht _ => heap_setCell_other _ _ _ _ (by
  rintro rfl
  rw [hb] at hg
  have := cells_ty hg
  subst this
  rcases ht with h | h
  · exact h5 h
  · exact h38 h))
theorem Recs.snoc {w w' : World} {n₀ : Nat} {v v' x : Value} {recs : List (List Int)} {vs : List Value} {ys : List Int} (h1 : w.ownsRow n₀ 38 1 v recs.length vs) (h2 : ∀ (i : Nat) (ys : List Int), recs[i]? = some ys → ∃ x, vs[i]? = some x ∧ 0 < ys.length ∧ w.ownsRow n₀ 5 1 x ys.length (ys.map (Value.int .u8))) (hx : w.ownsRow n₀ 5 1 x ys.length (ys.map (Value.int .u8))) (hy : 0 < ys.length) (O : w'.ownsRow n₀ 38 1 v' (recs.length + 1) (vs ++ [x])) (G : w.grownBy w' v.ownBlock) : Recs w' n₀ v' (recs ++ [ys]) := by
  have hvl : vs.length = recs.length := by have := h1.1; omega
  have keep5 : ∀ (y : Value) (zs : List Int), w.ownsRow n₀ 5 1 y zs.length (zs.map (Value.int .u8)) → w'.ownsRow n₀ 5 1 y zs.length (zs.map (Value.int .u8)) := fun y zs hy => own_same hy (fun g hg => by
    obtain ⟨_, cur, hh⟩ := own_block hy hg
    exact G.block g (lt_of_block hh) (fun e => own_ne h1 hh (by decide) e.symm))
  refine ⟨vs ++ [x], by simpa using O, fun i zs hi => ?_⟩
  rcases Nat.lt_trichotomy i recs.length with hl | hl | hl
  · rw [List.getElem?_append_left hl] at hi
    obtain ⟨y, h3, h4, h5⟩ := h2 i zs hi
    exact ⟨y, by rw [List.getElem?_append_left (by omega)]; exact h3, h4, keep5 _ _ h5⟩
  · subst hl
    rw [List.getElem?_append_right (Nat.le_refl _), Nat.sub_self] at hi
    simp only [List.getElem?_cons_zero, Option.some.injEq] at hi
    subst hi
    exact ⟨x, by rw [← hvl, List.getElem?_append_right (Nat.le_refl _), Nat.sub_self]; rfl, hy, keep5 _ _ hx⟩
  · rw [List.getElem?_eq_none (by simp; omega)] at hi
    cases hi
theorem own_alloc {w : World} {n₀ e sz n : Nat} {v : Value} {xs : List Value} (h : w.ownsRow n₀ e sz v n xs) (o : Obj) : (w.alloc o).ownsRow n₀ e sz v n xs :=
  own_same h (fun g hg => Below.heap_alloc _ _ _ (by obtain ⟨_, cur, hh⟩ := own_block h hg; exact lt_of_block hh))
theorem own_setRow {w : World} {n₀ e sz n b t : Nat} {v : Value} {xs : List Value} {c cs : Array Value} (h : w.ownsRow n₀ e sz v n xs) (hb : w.heap[b]? = some (.cells c t (0, 0))) (ht : t ≠ e) : (w.setRow b cs).ownsRow n₀ e sz v n xs :=
  own_same h (fun g hg => setRow_other _ _ _ _ (fun e' => own_ne h hb ht (by rw [hg, e'])))
/-- How many sectors a log says it has used. -/
def usedOf (w : World) (lb : Nat) : Nat := match w.cell? ⟨lb, 7, none⟩ with
  | some (.int _ k) => k.toNat
  | _ => 0
theorem Try.info38 : (Try.prog.info? 38).map (fun i => (i.zero, i.size, i.bytes)) = some (some (.slice none 0 0), 1, 24) := by kernel_rfl
def rcL : Option (Int × List Int) → Int
  | some (l, _) => l
  | none => 0
def rcS (seq : Int) : Option (Int × List Int) → Int
  | some _ => seq
  | none => 0
theorem readRecord_form {w : World} {gb u m M cap : Nat} {a0 : Option Addr} {xs : List Int} (hx : ArrS w gb 5 xs) (hb : ∀ x ∈ xs, 0 ≤ x ∧ x < 256) (hl : xs.length = 128 * M) (hum : u + m ≤ M) (hM : M ≤ 100000) (hcap : 128 * m ≤ cap) (ha0 : 0 < m → a0 = some ⟨gb, 128 * u, none⟩) (seq : Int) (rr : Option (Int × List Int)) (hrr : rdRec (fun k => ch xs (u + k)) seq m 0 0 [] = rr) :
    Calls Try.prog 88 #[.slice a0 (128 * m) cap, .int .i64 seq] w fun e w' => ∃ va vn vc, e = .returned (.tuple #[.agg #[.int .i64 (rcL rr), .int .i64 (rcS seq rr), .slice va vn vc], .bool rr.isSome]) ∧ Below w.heap.size w w' ∧ ∀ l ys, rr = some (l, ys) → vn = ys.length ∧ w'.ownsRow w.heap.size 5 1 (.slice va vn vc) ys.length (ys.map (Value.int .u8)) := by
  refine (readRecord_any hx hb hl hum hM hcap ha0 seq).mono ?_
  rintro e w' ⟨v, rfl, hB, hO⟩
  rw [hrr] at hO ⊢
  rcases rr with _ | ⟨l, ys⟩
  · exact ⟨none, 0, 0, rfl, hB, fun l ys h => by cases h⟩
  · have hO' := hO l ys rfl
    rcases hO'.2 with ⟨rfl, h2⟩ | ⟨g, cap', cur, rfl, h3⟩
    · exact ⟨none, 0, 0, rfl, hB, fun l' ys' h => by injection h with h; injection h with h1 h2; subst h2; exact ⟨by omega, hO'⟩⟩
    · exact ⟨_, _, _, rfl, hB, fun l' ys' h => by injection h with h; injection h with h1 h2; subst h2; exact ⟨rfl, hO'⟩⟩
theorem run_slice38 {a : Act} {w : World} {o : Oper} {x y : Operand} {gb off n c k : Nat} (h1 : a.eval x = .slice (some ⟨gb, off, none⟩) n c) (h2 : a.eval y = .int .i64 (k : Int)) (ho : o.op = .slice 38 x (some y) none none) (hk : k ≤ n) (hn : n ≤ c) : (execOp a.eval o).run Try.prog w = .ok (.value (.slice (if c = k then some ⟨gb, off, none⟩ else some ⟨gb, off + k, none⟩) (n - k) (c - k))) w := by
  have e1 : (0 : Int) ≤ (k : Int) := by omega
  have e2 : (k : Int) ≤ (n : Int) := by omega
  by_cases hc : c = k
  · subst hc
    have : n = c := by omega
    subst this
    simp only [execOp, ho, Option.map_some, Option.map_none, h1, h2]
    simp [go_sem]
  · simp only [execOp, ho, Option.map_some, Option.map_none, h1, h2]
    simp [go_sem, e1, e2, hc]
section
variable {w : World} {lb p : Nat} {hl half first since sq0 hs : Int} {failed : Bool}
theorem log_set5 {life seq used : Int} (h : w.heap[lb]? = some (logO p life half first since seq hs used failed)) (v : Int) : (w.setCell ⟨lb, 5, none⟩ (.int .i64 v)).heap[lb]? = some (logO p life half first since v hs used failed) := by
  unfold logO at h ⊢
  rw [heap_setCell_same w lb 5 _ _ _ h]
  simp
theorem log_set7 {life seq used : Int} (h : w.heap[lb]? = some (logO p life half first since seq hs used failed)) (v : Int) : (w.setCell ⟨lb, 7, none⟩ (.int .i64 v)).heap[lb]? = some (logO p life half first since seq hs v failed) := by
  unfold logO at h ⊢
  rw [heap_setCell_same w lb 7 _ _ _ h]
  simp
theorem usedOf_log {life seq used : Int} (h : w.heap[lb]? = some (logO p life half first since seq hs used failed)) : usedOf w lb = used.toNat := by
  unfold usedOf
  rw [(log_cells h).2.2.2.2.2.2.2.1]
set_option maxHeartbeats 8000000 in
theorem logRead_any {gb u m M cap : Nat} {xs : List Int} (hlog : w.heap[lb]? = some (logO p hl half first since sq0 hs 0 failed)) (hx : ArrS w gb 5 xs) (hb : ∀ x ∈ xs, 0 ≤ x ∧ x < 256) (hxl : xs.length = 128 * M) (hum : u + m ≤ M) (hM : M ≤ 100000) (hcap : 128 * m ≤ cap) (hf0 : 0 ≤ first) (hf1 : first ≤ 1099511627776) :
    Calls Try.prog 73 #[.pointer (some ⟨lb, 0, none⟩), .slice (some ⟨gb, 128 * u, none⟩) (128 * m) cap] w fun e w' => ∃ v recs U sq, rdLog (fun k => ch xs (u + k)) m hl (m + 1) 0 first since [] = (recs, U, sq) ∧ e = .returned v ∧ Recs w' w.heap.size v recs ∧ w'.heap[lb]? = some (logO p hl half first since sq hs (U : Int) failed) ∧ But lb w w' := by
  obtain ⟨c0, c1, c2, c3, c4, c5, c6, c7, c8, cf⟩ := log_cells hlog
  have L1 := log_set5 hlog first
  have N1 := (But.refl lb w).set (i := 5) (v := .int .i64 first)
  have hgl : gb ≠ lb := by
    rintro rfl
    unfold ArrS at hx
    rw [hx] at hlog
    exact absurd (cells_ty hlog) (by decide)
  have X1 : ArrS (w.setCell ⟨lb, 5, none⟩ (.int .i64 first)) gb 5 xs := (heap_setCell_other _ _ _ _ hgl).trans hx
  have hlb := lt_of_block hlog
  have hgb := lt_of_block hx
  go_enter Try.func73, Try.ntmps73
  go_wp2
  clear c0 c1 c2 c3 c4 c5 c6 c7 c8 cf
  generalize w.setCell ⟨lb, 5, none⟩ (.int .i64 first) = w1 at *
  go_loopw [5, 6] (fun rv lv wr => ∃ (recs : List (List Int)) (U : Nat) (sq life : Int), lv = .int .i64 life ∧ U ≤ m ∧ recs.length ≤ U ∧ sq = first + (recs.length : Int) ∧ wr.heap[lb]? = some (logO p hl half first since sq hs (U : Int) failed) ∧ Recs wr w.heap.size rv recs ∧ But lb w wr ∧ rdLog (fun k => ch xs (u + k)) m hl (m + 1) 0 first since [] = rdLog (fun k => ch xs (u + k)) m hl (m + 1 - recs.length) U sq life recs) (fun _ _ wr => m - usedOf wr lb)
  case atStart => exact ⟨[], 0, first, since, rfl, by omega, by simp, by simp, L1, Recs.nil _ _, N1, by simp⟩
  case round =>
    obtain ⟨recs, U, sq, life, rfl, hU, hrU, hsq, L, RC, N, hrd⟩ := hrel
    have L0 := L
    clear L1 N1 X1
    have X : ArrS wr gb 5 xs := (N.block gb hgb hgl).trans hx
    obtain ⟨rr, hrr⟩ : ∃ rr, Hid (rdRec (fun k => ch xs (u + U + k)) sq (m - U) 0 0 [] = rr) := ⟨_, rfl⟩
    have e : rdRec (fun k => ch xs (u + (U + k))) sq (m - U) 0 0 [] = rr := by
      rw [← hrr.out]
      congr 1
      funext k
      rw [Nat.add_assoc]
    have hrdN : Hid (rr = none → rdLog (fun k => ch xs (u + k)) m hl (m + 1) 0 first since [] = (recs, U, sq)) := by
      intro h
      rw [hrd, show m + 1 - recs.length = (m - recs.length) + 1 by omega]
      conv => lhs; unfold rdLog
      rw [e, h]
    have hrdS : Hid (∀ l ys, rr = some (l, ys) → rdLog (fun k => ch xs (u + k)) m hl (m + 1) 0 first since [] = if l < life ∨ hl < l then (recs, U, sq) else rdLog (fun k => ch xs (u + k)) m hl (m - recs.length) (U + (ys.length + 111) / 112) (sq + 1) l (recs ++ [ys])) := by
      intro l ys h
      rw [hrd, show m + 1 - recs.length = (m - recs.length) + 1 by omega]
      conv => lhs; unfold rdLog
      rw [e, h]
    have hrS : Hid (∀ l ys, rr = some (l, ys) → ys.length ≤ 60000 ∧ 0 < ys.length ∧ U + (ys.length + 111) / 112 ≤ m) := by
      intro l ys h
      have := rdRec_some _ _ _ _ _ _ l ys (fun k hk => ch_sec hxl hb _ (by omega)) (by simp) (hrr.out.trans h)
      omega
    clear e
    clear hrd
    obtain ⟨sa, c1, hsa, hc1, hrun⟩ : ∃ sa c1, (0 < m - U → sa = some ⟨gb, 128 * (u + U), none⟩) ∧ 128 * (m - U) ≤ c1 ∧ ∀ {a : Act} {w : World} {o : Oper} {x y : Operand}, a.eval x = .slice (some ⟨gb, 128 * u, none⟩) (128 * m) cap → a.eval y = .int .i64 ((U : Int) * 128) → o.op = .slice 38 x (some y) none none → (execOp a.eval o).run Try.prog w = .ok (.value (.slice sa (128 * (m - U)) c1)) w := by
      refine ⟨if cap = U * 128 then some ⟨gb, 128 * u, none⟩ else some ⟨gb, 128 * u + U * 128, none⟩, cap - U * 128, fun h => ?_, by omega, fun {a w o x y} h1 h2 ho => ?_⟩
      · rw [if_neg (by omega), show 128 * u + U * 128 = 128 * (u + U) by omega]
      · have := run_slice38 (w := w) (k := U * 128) h1 (by rw [h2]; push_cast; rfl) ho (by omega) hcap
        rw [this, show 128 * m - U * 128 = 128 * (m - U) by omega]
    have hw0 : IntKind.i64.wrap ((U : Int) * 128) = (U : Int) * 128 := by rw [IntKind.wrap_i64]; omega
    go_upto_region 4 with fail
    go_cut [7, 8] from 22 to 80 (fun v7 v8 wx => ∃ va vn vc nb, v7 = .pointer (some ⟨nb, 0, none⟩) ∧ v8 = .bool rr.isSome ∧ Below wr.heap.size wr wx ∧ wr.heap.size ≤ nb ∧ wx.heap[nb]? = some (recO (rcL rr) (rcS sq rr) (.slice va vn vc)) ∧ ∀ l ys, rr = some (l, ys) → vn = ys.length ∧ wx.ownsRow wr.heap.size 5 1 (.slice va vn vc) ys.length (ys.map (Value.int .u8)))
    case first =>
      refine wp_region_inv' (fun A D a w' => ∃ v23 v24 v25 v26 v27 v28 v29 v30 v31 v32 v33 v34 v22 v35 v36 v7 v8 va vn vc nb, a = (((((((((((((((((A.put (some 23) v23).put (some 24) v24).put (some 25) v25).put (some 26) v26).put (some 27) v27).put (some 28) v28).put (some 29) v29).put (some 30) v30).put (some 31) v31).put (some 32) v32).put (some 33) v33).put (some 34) v34).put (some 22) v22).put (some 35) v35).put (some 36) v36).put (some 7) v7).put (some 8) v8) ∧ Below wr.heap.size wr w' ∧ (D 0 → v23 = .slice (some ⟨gb, 128 * u, none⟩) (128 * m) cap) ∧ (D 1 → v24 = .pointer (some ⟨lb, 0, none⟩)) ∧ (D 2 → v25 = .pointer (some ⟨lb, 0, none⟩)) ∧ (D 3 → v26 = .pointer (some ⟨lb, 7, none⟩)) ∧ (D 4 → v27 = .int .i64 (U : Int)) ∧ (D 5 → v28 = .int .i64 ((U : Int) * 128)) ∧ (D 6 → v29 = .slice sa (128 * (m - U)) c1) ∧ (D 7 → v30 = .pointer (some ⟨lb, 0, none⟩)) ∧ (D 8 → v31 = .pointer (some ⟨lb, 0, none⟩)) ∧ (D 9 → v32 = .pointer (some ⟨lb, 5, none⟩)) ∧ (D 10 → v33 = .int .i64 sq) ∧ (D 11 → v34 = .tuple #[.agg #[.int .i64 (rcL rr), .int .i64 (rcS sq rr), .slice va vn vc], .bool rr.isSome]) ∧ (D 12 → v22 = .tuple #[.agg #[.int .i64 (rcL rr), .int .i64 (rcS sq rr), .slice va vn vc], .bool rr.isSome]) ∧ (D 13 → v35 = .agg #[.int .i64 (rcL rr), .int .i64 (rcS sq rr), .slice va vn vc]) ∧ (D 14 → v36 = .bool rr.isSome) ∧ (D 15 → v7 = .pointer (some ⟨nb, 0, none⟩)) ∧ (D 17 → v8 = .bool rr.isSome) ∧ (D 11 → ∀ l ys, rr = some (l, ys) → vn = ys.length ∧ w'.ownsRow wr.heap.size 5 1 (.slice va vn vc) ys.length (ys.map (Value.int .u8))) ∧ (D 15 → wr.heap.size ≤ nb) ∧ (D 16 → w'.heap[nb]? = some (recO (rcL rr) (rcS sq rr) (.slice va vn vc))) ∧ (D 15 → ¬ D 16 → w'.heap[nb]? = some (.cells #[.int .i64 0, .int .i64 0, .slice none 0 0] 91 (0, 0)))) (by kernel_rfl) (by kernel_rfl) ?mono ?start ?step ?done
      case mono =>
        rintro D D' a w' hD ⟨v23, v24, v25, v26, v27, v28, v29, v30, v31, v32, v33, v34, v22, v35, v36, v7, v8, va, vn, vc, nb, ha, hB, e0, e1, e2, e3, e4, e5, e6, e7, e8, e9, e10, e11, e12, e13, e14, e15, e17, hown, hnb, hr, hnz⟩
        exact ⟨v23, v24, v25, v26, v27, v28, v29, v30, v31, v32, v33, v34, v22, v35, v36, v7, v8, va, vn, vc, nb, ha, hB, fun h => e0 ((hD 0).2 h), fun h => e1 ((hD 1).2 h), fun h => e2 ((hD 2).2 h), fun h => e3 ((hD 3).2 h), fun h => e4 ((hD 4).2 h), fun h => e5 ((hD 5).2 h), fun h => e6 ((hD 6).2 h), fun h => e7 ((hD 7).2 h), fun h => e8 ((hD 8).2 h), fun h => e9 ((hD 9).2 h), fun h => e10 ((hD 10).2 h), fun h => e11 ((hD 11).2 h), fun h => e12 ((hD 12).2 h), fun h => e13 ((hD 13).2 h), fun h => e14 ((hD 14).2 h), fun h => e15 ((hD 15).2 h), fun h => e17 ((hD 17).2 h), fun h => hown ((hD 11).2 h), fun h => hnb ((hD 15).2 h), fun h => hr ((hD 16).2 h), fun h h' => hnz ((hD 15).2 h) (fun k => h' ((hD 16).1 k))⟩
      case start => exact ⟨u23, u24, u25, u26, u27, u28, u29, u30, u31, u32, u33, u34, u22, u35, u36, u7, u8, none, 0, 0, 0, by kernel_rfl, (Below.refl _ _).drew, fun h => h.elim, fun h => h.elim, fun h => h.elim, fun h => h.elim, fun h => h.elim, fun h => h.elim, fun h => h.elim, fun h => h.elim, fun h => h.elim, fun h => h.elim, fun h => h.elim, fun h => h.elim, fun h => h.elim, fun h => h.elim, fun h => h.elim, fun h => h.elim, fun h => h.elim, fun h => h.elim, fun h => h.elim, fun h => h.elim, fun h _ => h.elim⟩
      case step =>
        intro i o ho D a w' hI hn hcl hd
        obtain ⟨v23, v24, v25, v26, v27, v28, v29, v30, v31, v32, v33, v34, v22, v35, v36, v7, v8, va, vn, vc, nb, ha, hB, e0, e1, e2, e3, e4, e5, e6, e7, e8, e9, e10, e11, e12, e13, e14, e15, e17, hown, hnb, hr, hnz⟩ := hI
        match i, ho with
        | 0, ho =>
          cases Option.some.inj ho
          have ev : a.tmps[1]?.getD undef = .slice (some ⟨gb, 128 * u, none⟩) (128 * m) cap := by rw [ha]; kernel_rfl
          refine wp_value (w' := w') (v := .slice (some ⟨gb, 128 * u, none⟩) (128 * m) cap) (by simp [execOp, ev, go_sem]) ?_
          exact ⟨(.slice (some ⟨gb, 128 * u, none⟩) (128 * m) cap), v24, v25, v26, v27, v28, v29, v30, v31, v32, v33, v34, v22, v35, v36, v7, v8, va, vn, vc, nb, by rw [ha]; kernel_rfl, hB, fun _ => rfl, fun h => e1 (h.resolve_left (by decide)), fun h => e2 (h.resolve_left (by decide)), fun h => e3 (h.resolve_left (by decide)), fun h => e4 (h.resolve_left (by decide)), fun h => e5 (h.resolve_left (by decide)), fun h => e6 (h.resolve_left (by decide)), fun h => e7 (h.resolve_left (by decide)), fun h => e8 (h.resolve_left (by decide)), fun h => e9 (h.resolve_left (by decide)), fun h => e10 (h.resolve_left (by decide)), fun h => e11 (h.resolve_left (by decide)), fun h => e12 (h.resolve_left (by decide)), fun h => e13 (h.resolve_left (by decide)), fun h => e14 (h.resolve_left (by decide)), fun h => e15 (h.resolve_left (by decide)), fun h => e17 (h.resolve_left (by decide)), fun h => hown (h.resolve_left (by decide)), fun h => hnb (h.resolve_left (by decide)), fun h => hr (h.resolve_left (by decide)), fun h h' => hnz (h.resolve_left (by decide)) (fun k => h' (.inr k))⟩
        | 1, ho =>
          cases Option.some.inj ho
          have ev : a.tmps[0]?.getD undef = .pointer (some ⟨lb, 0, none⟩) := by rw [ha]; kernel_rfl
          refine wp_value (w' := w') (v := .pointer (some ⟨lb, 0, none⟩)) (by simp [execOp, ev, go_sem]) ?_
          exact ⟨v23, (.pointer (some ⟨lb, 0, none⟩)), v25, v26, v27, v28, v29, v30, v31, v32, v33, v34, v22, v35, v36, v7, v8, va, vn, vc, nb, by rw [ha]; kernel_rfl, hB, fun h => e0 (h.resolve_left (by decide)), fun _ => rfl, fun h => e2 (h.resolve_left (by decide)), fun h => e3 (h.resolve_left (by decide)), fun h => e4 (h.resolve_left (by decide)), fun h => e5 (h.resolve_left (by decide)), fun h => e6 (h.resolve_left (by decide)), fun h => e7 (h.resolve_left (by decide)), fun h => e8 (h.resolve_left (by decide)), fun h => e9 (h.resolve_left (by decide)), fun h => e10 (h.resolve_left (by decide)), fun h => e11 (h.resolve_left (by decide)), fun h => e12 (h.resolve_left (by decide)), fun h => e13 (h.resolve_left (by decide)), fun h => e14 (h.resolve_left (by decide)), fun h => e15 (h.resolve_left (by decide)), fun h => e17 (h.resolve_left (by decide)), fun h => hown (h.resolve_left (by decide)), fun h => hnb (h.resolve_left (by decide)), fun h => hr (h.resolve_left (by decide)), fun h h' => hnz (h.resolve_left (by decide)) (fun k => h' (.inr k))⟩
        | 2, ho =>
          cases Option.some.inj ho
          have ev : a.tmps[24]?.getD undef = .pointer (some ⟨lb, 0, none⟩) := by rw [ha, e1 (hd ⟨1, .data⟩ (by simp) rfl)]; kernel_rfl
          refine wp_value (w' := w') (v := .pointer (some ⟨lb, 0, none⟩)) (by simp [execOp, ev, go_sem]) ?_
          exact ⟨v23, v24, (.pointer (some ⟨lb, 0, none⟩)), v26, v27, v28, v29, v30, v31, v32, v33, v34, v22, v35, v36, v7, v8, va, vn, vc, nb, by rw [ha]; kernel_rfl, hB, fun h => e0 (h.resolve_left (by decide)), fun h => e1 (h.resolve_left (by decide)), fun _ => rfl, fun h => e3 (h.resolve_left (by decide)), fun h => e4 (h.resolve_left (by decide)), fun h => e5 (h.resolve_left (by decide)), fun h => e6 (h.resolve_left (by decide)), fun h => e7 (h.resolve_left (by decide)), fun h => e8 (h.resolve_left (by decide)), fun h => e9 (h.resolve_left (by decide)), fun h => e10 (h.resolve_left (by decide)), fun h => e11 (h.resolve_left (by decide)), fun h => e12 (h.resolve_left (by decide)), fun h => e13 (h.resolve_left (by decide)), fun h => e14 (h.resolve_left (by decide)), fun h => e15 (h.resolve_left (by decide)), fun h => e17 (h.resolve_left (by decide)), fun h => hown (h.resolve_left (by decide)), fun h => hnb (h.resolve_left (by decide)), fun h => hr (h.resolve_left (by decide)), fun h h' => hnz (h.resolve_left (by decide)) (fun k => h' (.inr k))⟩
        | 3, ho =>
          cases Option.some.inj ho
          have ev : a.tmps[25]?.getD undef = .pointer (some ⟨lb, 0, none⟩) := by rw [ha, e2 (hd ⟨2, .data⟩ (by simp) rfl)]; kernel_rfl
          refine wp_value (w' := w') (v := .pointer (some ⟨lb, 7, none⟩)) (by simp [execOp, ev, go_sem]) ?_
          exact ⟨v23, v24, v25, (.pointer (some ⟨lb, 7, none⟩)), v27, v28, v29, v30, v31, v32, v33, v34, v22, v35, v36, v7, v8, va, vn, vc, nb, by rw [ha]; kernel_rfl, hB, fun h => e0 (h.resolve_left (by decide)), fun h => e1 (h.resolve_left (by decide)), fun h => e2 (h.resolve_left (by decide)), fun _ => rfl, fun h => e4 (h.resolve_left (by decide)), fun h => e5 (h.resolve_left (by decide)), fun h => e6 (h.resolve_left (by decide)), fun h => e7 (h.resolve_left (by decide)), fun h => e8 (h.resolve_left (by decide)), fun h => e9 (h.resolve_left (by decide)), fun h => e10 (h.resolve_left (by decide)), fun h => e11 (h.resolve_left (by decide)), fun h => e12 (h.resolve_left (by decide)), fun h => e13 (h.resolve_left (by decide)), fun h => e14 (h.resolve_left (by decide)), fun h => e15 (h.resolve_left (by decide)), fun h => e17 (h.resolve_left (by decide)), fun h => hown (h.resolve_left (by decide)), fun h => hnb (h.resolve_left (by decide)), fun h => hr (h.resolve_left (by decide)), fun h h' => hnz (h.resolve_left (by decide)) (fun k => h' (.inr k))⟩
        | 4, ho =>
          cases Option.some.inj ho
          have ev : a.tmps[26]?.getD undef = .pointer (some ⟨lb, 7, none⟩) := by rw [ha, e3 (hd ⟨3, .data⟩ (by simp) rfl)]; kernel_rfl
          have hc := (log_cells ((hB.block lb (lt_of_block L)).trans L)).2.2.2.2.2.2.2.1
          refine wp_value (w' := w') (v := .int .i64 (U : Int)) (by simp [execOp, ev, go_sem, hc]) ?_
          exact ⟨v23, v24, v25, v26, (.int .i64 (U : Int)), v28, v29, v30, v31, v32, v33, v34, v22, v35, v36, v7, v8, va, vn, vc, nb, by rw [ha]; kernel_rfl, hB, fun h => e0 (h.resolve_left (by decide)), fun h => e1 (h.resolve_left (by decide)), fun h => e2 (h.resolve_left (by decide)), fun h => e3 (h.resolve_left (by decide)), fun _ => rfl, fun h => e5 (h.resolve_left (by decide)), fun h => e6 (h.resolve_left (by decide)), fun h => e7 (h.resolve_left (by decide)), fun h => e8 (h.resolve_left (by decide)), fun h => e9 (h.resolve_left (by decide)), fun h => e10 (h.resolve_left (by decide)), fun h => e11 (h.resolve_left (by decide)), fun h => e12 (h.resolve_left (by decide)), fun h => e13 (h.resolve_left (by decide)), fun h => e14 (h.resolve_left (by decide)), fun h => e15 (h.resolve_left (by decide)), fun h => e17 (h.resolve_left (by decide)), fun h => hown (h.resolve_left (by decide)), fun h => hnb (h.resolve_left (by decide)), fun h => hr (h.resolve_left (by decide)), fun h h' => hnz (h.resolve_left (by decide)) (fun k => h' (.inr k))⟩
        | 5, ho =>
          cases Option.some.inj ho
          have ev : a.tmps[27]?.getD undef = .int .i64 (U : Int) := by rw [ha, e4 (hd ⟨4, .data⟩ (by simp) rfl)]; kernel_rfl
          refine wp_value (w' := w') (v := .int .i64 ((U : Int) * 128)) (by simp [execOp, ev, go_sem, hw0]) ?_
          exact ⟨v23, v24, v25, v26, v27, (.int .i64 ((U : Int) * 128)), v29, v30, v31, v32, v33, v34, v22, v35, v36, v7, v8, va, vn, vc, nb, by rw [ha]; kernel_rfl, hB, fun h => e0 (h.resolve_left (by decide)), fun h => e1 (h.resolve_left (by decide)), fun h => e2 (h.resolve_left (by decide)), fun h => e3 (h.resolve_left (by decide)), fun h => e4 (h.resolve_left (by decide)), fun _ => rfl, fun h => e6 (h.resolve_left (by decide)), fun h => e7 (h.resolve_left (by decide)), fun h => e8 (h.resolve_left (by decide)), fun h => e9 (h.resolve_left (by decide)), fun h => e10 (h.resolve_left (by decide)), fun h => e11 (h.resolve_left (by decide)), fun h => e12 (h.resolve_left (by decide)), fun h => e13 (h.resolve_left (by decide)), fun h => e14 (h.resolve_left (by decide)), fun h => e15 (h.resolve_left (by decide)), fun h => e17 (h.resolve_left (by decide)), fun h => hown (h.resolve_left (by decide)), fun h => hnb (h.resolve_left (by decide)), fun h => hr (h.resolve_left (by decide)), fun h h' => hnz (h.resolve_left (by decide)) (fun k => h' (.inr k))⟩
        | 6, ho =>
          cases Option.some.inj ho
          have ev : a.tmps[23]?.getD undef = .slice (some ⟨gb, 128 * u, none⟩) (128 * m) cap := by rw [ha, e0 (hd ⟨0, .data⟩ (by simp) rfl)]; kernel_rfl
          have ev' : a.tmps[28]?.getD undef = .int .i64 ((U : Int) * 128) := by rw [ha, e5 (hd ⟨5, .data⟩ (by simp) rfl)]; kernel_rfl
          refine wp_value (w' := w') (v := .slice sa (128 * (m - U)) c1) (hrun (eval_of ev) (eval_of ev') rfl) ?_
          exact ⟨v23, v24, v25, v26, v27, v28, (.slice sa (128 * (m - U)) c1), v30, v31, v32, v33, v34, v22, v35, v36, v7, v8, va, vn, vc, nb, by rw [ha]; kernel_rfl, hB, fun h => e0 (h.resolve_left (by decide)), fun h => e1 (h.resolve_left (by decide)), fun h => e2 (h.resolve_left (by decide)), fun h => e3 (h.resolve_left (by decide)), fun h => e4 (h.resolve_left (by decide)), fun h => e5 (h.resolve_left (by decide)), fun _ => rfl, fun h => e7 (h.resolve_left (by decide)), fun h => e8 (h.resolve_left (by decide)), fun h => e9 (h.resolve_left (by decide)), fun h => e10 (h.resolve_left (by decide)), fun h => e11 (h.resolve_left (by decide)), fun h => e12 (h.resolve_left (by decide)), fun h => e13 (h.resolve_left (by decide)), fun h => e14 (h.resolve_left (by decide)), fun h => e15 (h.resolve_left (by decide)), fun h => e17 (h.resolve_left (by decide)), fun h => hown (h.resolve_left (by decide)), fun h => hnb (h.resolve_left (by decide)), fun h => hr (h.resolve_left (by decide)), fun h h' => hnz (h.resolve_left (by decide)) (fun k => h' (.inr k))⟩
        | 7, ho =>
          cases Option.some.inj ho
          have ev : a.tmps[0]?.getD undef = .pointer (some ⟨lb, 0, none⟩) := by rw [ha]; kernel_rfl
          refine wp_value (w' := w') (v := .pointer (some ⟨lb, 0, none⟩)) (by simp [execOp, ev, go_sem]) ?_
          exact ⟨v23, v24, v25, v26, v27, v28, v29, (.pointer (some ⟨lb, 0, none⟩)), v31, v32, v33, v34, v22, v35, v36, v7, v8, va, vn, vc, nb, by rw [ha]; kernel_rfl, hB, fun h => e0 (h.resolve_left (by decide)), fun h => e1 (h.resolve_left (by decide)), fun h => e2 (h.resolve_left (by decide)), fun h => e3 (h.resolve_left (by decide)), fun h => e4 (h.resolve_left (by decide)), fun h => e5 (h.resolve_left (by decide)), fun h => e6 (h.resolve_left (by decide)), fun _ => rfl, fun h => e8 (h.resolve_left (by decide)), fun h => e9 (h.resolve_left (by decide)), fun h => e10 (h.resolve_left (by decide)), fun h => e11 (h.resolve_left (by decide)), fun h => e12 (h.resolve_left (by decide)), fun h => e13 (h.resolve_left (by decide)), fun h => e14 (h.resolve_left (by decide)), fun h => e15 (h.resolve_left (by decide)), fun h => e17 (h.resolve_left (by decide)), fun h => hown (h.resolve_left (by decide)), fun h => hnb (h.resolve_left (by decide)), fun h => hr (h.resolve_left (by decide)), fun h h' => hnz (h.resolve_left (by decide)) (fun k => h' (.inr k))⟩
        | 8, ho =>
          cases Option.some.inj ho
          have ev : a.tmps[30]?.getD undef = .pointer (some ⟨lb, 0, none⟩) := by rw [ha, e7 (hd ⟨7, .data⟩ (by simp) rfl)]; kernel_rfl
          refine wp_value (w' := w') (v := .pointer (some ⟨lb, 0, none⟩)) (by simp [execOp, ev, go_sem]) ?_
          exact ⟨v23, v24, v25, v26, v27, v28, v29, v30, (.pointer (some ⟨lb, 0, none⟩)), v32, v33, v34, v22, v35, v36, v7, v8, va, vn, vc, nb, by rw [ha]; kernel_rfl, hB, fun h => e0 (h.resolve_left (by decide)), fun h => e1 (h.resolve_left (by decide)), fun h => e2 (h.resolve_left (by decide)), fun h => e3 (h.resolve_left (by decide)), fun h => e4 (h.resolve_left (by decide)), fun h => e5 (h.resolve_left (by decide)), fun h => e6 (h.resolve_left (by decide)), fun h => e7 (h.resolve_left (by decide)), fun _ => rfl, fun h => e9 (h.resolve_left (by decide)), fun h => e10 (h.resolve_left (by decide)), fun h => e11 (h.resolve_left (by decide)), fun h => e12 (h.resolve_left (by decide)), fun h => e13 (h.resolve_left (by decide)), fun h => e14 (h.resolve_left (by decide)), fun h => e15 (h.resolve_left (by decide)), fun h => e17 (h.resolve_left (by decide)), fun h => hown (h.resolve_left (by decide)), fun h => hnb (h.resolve_left (by decide)), fun h => hr (h.resolve_left (by decide)), fun h h' => hnz (h.resolve_left (by decide)) (fun k => h' (.inr k))⟩
        | 9, ho =>
          cases Option.some.inj ho
          have ev : a.tmps[31]?.getD undef = .pointer (some ⟨lb, 0, none⟩) := by rw [ha, e8 (hd ⟨8, .data⟩ (by simp) rfl)]; kernel_rfl
          refine wp_value (w' := w') (v := .pointer (some ⟨lb, 5, none⟩)) (by simp [execOp, ev, go_sem]) ?_
          exact ⟨v23, v24, v25, v26, v27, v28, v29, v30, v31, (.pointer (some ⟨lb, 5, none⟩)), v33, v34, v22, v35, v36, v7, v8, va, vn, vc, nb, by rw [ha]; kernel_rfl, hB, fun h => e0 (h.resolve_left (by decide)), fun h => e1 (h.resolve_left (by decide)), fun h => e2 (h.resolve_left (by decide)), fun h => e3 (h.resolve_left (by decide)), fun h => e4 (h.resolve_left (by decide)), fun h => e5 (h.resolve_left (by decide)), fun h => e6 (h.resolve_left (by decide)), fun h => e7 (h.resolve_left (by decide)), fun h => e8 (h.resolve_left (by decide)), fun _ => rfl, fun h => e10 (h.resolve_left (by decide)), fun h => e11 (h.resolve_left (by decide)), fun h => e12 (h.resolve_left (by decide)), fun h => e13 (h.resolve_left (by decide)), fun h => e14 (h.resolve_left (by decide)), fun h => e15 (h.resolve_left (by decide)), fun h => e17 (h.resolve_left (by decide)), fun h => hown (h.resolve_left (by decide)), fun h => hnb (h.resolve_left (by decide)), fun h => hr (h.resolve_left (by decide)), fun h h' => hnz (h.resolve_left (by decide)) (fun k => h' (.inr k))⟩
        | 10, ho =>
          cases Option.some.inj ho
          have ev : a.tmps[32]?.getD undef = .pointer (some ⟨lb, 5, none⟩) := by rw [ha, e9 (hd ⟨9, .data⟩ (by simp) rfl)]; kernel_rfl
          have hc := (log_cells ((hB.block lb (lt_of_block L)).trans L)).2.2.2.2.2.1
          refine wp_value (w' := w') (v := .int .i64 sq) (by simp [execOp, ev, go_sem, hc]) ?_
          exact ⟨v23, v24, v25, v26, v27, v28, v29, v30, v31, v32, (.int .i64 sq), v34, v22, v35, v36, v7, v8, va, vn, vc, nb, by rw [ha]; kernel_rfl, hB, fun h => e0 (h.resolve_left (by decide)), fun h => e1 (h.resolve_left (by decide)), fun h => e2 (h.resolve_left (by decide)), fun h => e3 (h.resolve_left (by decide)), fun h => e4 (h.resolve_left (by decide)), fun h => e5 (h.resolve_left (by decide)), fun h => e6 (h.resolve_left (by decide)), fun h => e7 (h.resolve_left (by decide)), fun h => e8 (h.resolve_left (by decide)), fun h => e9 (h.resolve_left (by decide)), fun _ => rfl, fun h => e11 (h.resolve_left (by decide)), fun h => e12 (h.resolve_left (by decide)), fun h => e13 (h.resolve_left (by decide)), fun h => e14 (h.resolve_left (by decide)), fun h => e15 (h.resolve_left (by decide)), fun h => e17 (h.resolve_left (by decide)), fun h => hown (h.resolve_left (by decide)), fun h => hnb (h.resolve_left (by decide)), fun h => hr (h.resolve_left (by decide)), fun h h' => hnz (h.resolve_left (by decide)) (fun k => h' (.inr k))⟩
        | 11, ho =>
          cases Option.some.inj ho
          have ev : a.tmps[29]?.getD undef = .slice sa (128 * (m - U)) c1 := by rw [ha, e6 (hd ⟨6, .data⟩ (by simp) rfl)]; kernel_rfl
          have ev' : a.tmps[33]?.getD undef = .int .i64 sq := by rw [ha, e10 (hd ⟨10, .data⟩ (by simp) rfl)]; kernel_rfl
          refine wp_enter (f := 88) (args := #[.slice sa (128 * (m - U)) c1, .int .i64 sq]) (by simp [execOp, ev, ev', go_sem]) ?_
          refine (readRecord_form (w := w') ((hB.block gb (lt_of_block X)).trans X) hb hxl (u := u + U) (m := m - U) (by omega) hM hc1 hsa sq rr hrr.out).mono ?_
          rintro e w6 ⟨va', vn', vc', rfl, HB, hO⟩
          refine ⟨_, rfl, ?_⟩
          exact ⟨v23, v24, v25, v26, v27, v28, v29, v30, v31, v32, v33, (.tuple #[.agg #[.int .i64 (rcL rr), .int .i64 (rcS sq rr), .slice va' vn' vc'], .bool rr.isSome]), v22, v35, v36, v7, v8, va', vn', vc', nb, by rw [ha]; kernel_rfl, below_size hB (Nat.le_refl _) HB, fun h => e0 (h.resolve_left (by decide)), fun h => e1 (h.resolve_left (by decide)), fun h => e2 (h.resolve_left (by decide)), fun h => e3 (h.resolve_left (by decide)), fun h => e4 (h.resolve_left (by decide)), fun h => e5 (h.resolve_left (by decide)), fun h => e6 (h.resolve_left (by decide)), fun h => e7 (h.resolve_left (by decide)), fun h => e8 (h.resolve_left (by decide)), fun h => e9 (h.resolve_left (by decide)), fun h => e10 (h.resolve_left (by decide)), fun _ => rfl, fun h => absurd (h.resolve_left (by decide)) (fun h => hn (hcl 12 _ rfl h ⟨11, .data⟩ (by simp) rfl)), fun h => absurd (h.resolve_left (by decide)) (fun h => (fun h => hn (hcl 12 _ rfl h ⟨11, .data⟩ (by simp) rfl)) (hcl 13 _ rfl h ⟨12, .data⟩ (by simp) rfl)), fun h => e14 (h.resolve_left (by decide)), fun h => e15 (h.resolve_left (by decide)), fun h => e17 (h.resolve_left (by decide)), fun _ l ys e => ⟨(hO l ys e).1, own_mono (hO l ys e).2 hB.size⟩, fun h => hnb (h.resolve_left (by decide)), fun h => absurd (h.resolve_left (by decide)) (fun h => (fun h => (fun h => hn (hcl 12 _ rfl h ⟨11, .data⟩ (by simp) rfl)) (hcl 13 _ rfl h ⟨12, .data⟩ (by simp) rfl)) (hcl 16 _ rfl h ⟨13, .data⟩ (by simp) rfl)), fun h h' => (HB.block _ (lt_of_block (hnz (h.resolve_left (by decide)) (fun k => h' (.inr k))))).trans (hnz (h.resolve_left (by decide)) (fun k => h' (.inr k)))⟩
        | 12, ho =>
          cases Option.some.inj ho
          have ev : a.tmps[34]?.getD undef = .tuple #[.agg #[.int .i64 (rcL rr), .int .i64 (rcS sq rr), .slice va vn vc], .bool rr.isSome] := by rw [ha, e11 (hd ⟨11, .data⟩ (by simp) rfl)]; kernel_rfl
          refine wp_value (w' := w') (v := .tuple #[.agg #[.int .i64 (rcL rr), .int .i64 (rcS sq rr), .slice va vn vc], .bool rr.isSome]) (by simp [execOp, ev, go_sem]) ?_
          exact ⟨v23, v24, v25, v26, v27, v28, v29, v30, v31, v32, v33, v34, (.tuple #[.agg #[.int .i64 (rcL rr), .int .i64 (rcS sq rr), .slice va vn vc], .bool rr.isSome]), v35, v36, v7, v8, va, vn, vc, nb, by rw [ha]; kernel_rfl, hB, fun h => e0 (h.resolve_left (by decide)), fun h => e1 (h.resolve_left (by decide)), fun h => e2 (h.resolve_left (by decide)), fun h => e3 (h.resolve_left (by decide)), fun h => e4 (h.resolve_left (by decide)), fun h => e5 (h.resolve_left (by decide)), fun h => e6 (h.resolve_left (by decide)), fun h => e7 (h.resolve_left (by decide)), fun h => e8 (h.resolve_left (by decide)), fun h => e9 (h.resolve_left (by decide)), fun h => e10 (h.resolve_left (by decide)), fun h => e11 (h.resolve_left (by decide)), fun _ => rfl, fun h => e13 (h.resolve_left (by decide)), fun h => e14 (h.resolve_left (by decide)), fun h => e15 (h.resolve_left (by decide)), fun h => e17 (h.resolve_left (by decide)), fun h => hown (h.resolve_left (by decide)), fun h => hnb (h.resolve_left (by decide)), fun h => hr (h.resolve_left (by decide)), fun h h' => hnz (h.resolve_left (by decide)) (fun k => h' (.inr k))⟩
        | 13, ho =>
          cases Option.some.inj ho
          have ev : a.tmps[22]?.getD undef = .tuple #[.agg #[.int .i64 (rcL rr), .int .i64 (rcS sq rr), .slice va vn vc], .bool rr.isSome] := by rw [ha, e12 (hd ⟨12, .data⟩ (by simp) rfl)]; kernel_rfl
          refine wp_value (w' := w') (v := .agg #[.int .i64 (rcL rr), .int .i64 (rcS sq rr), .slice va vn vc]) (by simp [execOp, ev, go_sem]) ?_
          exact ⟨v23, v24, v25, v26, v27, v28, v29, v30, v31, v32, v33, v34, v22, (.agg #[.int .i64 (rcL rr), .int .i64 (rcS sq rr), .slice va vn vc]), v36, v7, v8, va, vn, vc, nb, by rw [ha]; kernel_rfl, hB, fun h => e0 (h.resolve_left (by decide)), fun h => e1 (h.resolve_left (by decide)), fun h => e2 (h.resolve_left (by decide)), fun h => e3 (h.resolve_left (by decide)), fun h => e4 (h.resolve_left (by decide)), fun h => e5 (h.resolve_left (by decide)), fun h => e6 (h.resolve_left (by decide)), fun h => e7 (h.resolve_left (by decide)), fun h => e8 (h.resolve_left (by decide)), fun h => e9 (h.resolve_left (by decide)), fun h => e10 (h.resolve_left (by decide)), fun h => e11 (h.resolve_left (by decide)), fun h => e12 (h.resolve_left (by decide)), fun _ => rfl, fun h => e14 (h.resolve_left (by decide)), fun h => e15 (h.resolve_left (by decide)), fun h => e17 (h.resolve_left (by decide)), fun h => hown (h.resolve_left (by decide)), fun h => hnb (h.resolve_left (by decide)), fun h => hr (h.resolve_left (by decide)), fun h h' => hnz (h.resolve_left (by decide)) (fun k => h' (.inr k))⟩
        | 14, ho =>
          cases Option.some.inj ho
          have ev : a.tmps[22]?.getD undef = .tuple #[.agg #[.int .i64 (rcL rr), .int .i64 (rcS sq rr), .slice va vn vc], .bool rr.isSome] := by rw [ha, e12 (hd ⟨12, .data⟩ (by simp) rfl)]; kernel_rfl
          refine wp_value (w' := w') (v := .bool rr.isSome) (by simp [execOp, ev, go_sem]) ?_
          exact ⟨v23, v24, v25, v26, v27, v28, v29, v30, v31, v32, v33, v34, v22, v35, (.bool rr.isSome), v7, v8, va, vn, vc, nb, by rw [ha]; kernel_rfl, hB, fun h => e0 (h.resolve_left (by decide)), fun h => e1 (h.resolve_left (by decide)), fun h => e2 (h.resolve_left (by decide)), fun h => e3 (h.resolve_left (by decide)), fun h => e4 (h.resolve_left (by decide)), fun h => e5 (h.resolve_left (by decide)), fun h => e6 (h.resolve_left (by decide)), fun h => e7 (h.resolve_left (by decide)), fun h => e8 (h.resolve_left (by decide)), fun h => e9 (h.resolve_left (by decide)), fun h => e10 (h.resolve_left (by decide)), fun h => e11 (h.resolve_left (by decide)), fun h => e12 (h.resolve_left (by decide)), fun h => e13 (h.resolve_left (by decide)), fun _ => rfl, fun h => e15 (h.resolve_left (by decide)), fun h => e17 (h.resolve_left (by decide)), fun h => hown (h.resolve_left (by decide)), fun h => hnb (h.resolve_left (by decide)), fun h => hr (h.resolve_left (by decide)), fun h h' => hnz (h.resolve_left (by decide)) (fun k => h' (.inr k))⟩
        | 15, ho =>
          cases Option.some.inj ho
          refine wp_value (w' := w'.alloc (.cells #[.int .i64 0, .int .i64 0, .slice none 0 0] 91)) (v := .pointer (some ⟨w'.heap.size, 0, none⟩)) (by simp [execOp, go_sem]) ?_
          exact ⟨v23, v24, v25, v26, v27, v28, v29, v30, v31, v32, v33, v34, v22, v35, v36, (.pointer (some ⟨w'.heap.size, 0, none⟩)), v8, va, vn, vc, w'.heap.size, by rw [ha]; kernel_rfl, hB.alloc hB.size _, fun h => e0 (h.resolve_left (by decide)), fun h => e1 (h.resolve_left (by decide)), fun h => e2 (h.resolve_left (by decide)), fun h => e3 (h.resolve_left (by decide)), fun h => e4 (h.resolve_left (by decide)), fun h => e5 (h.resolve_left (by decide)), fun h => e6 (h.resolve_left (by decide)), fun h => e7 (h.resolve_left (by decide)), fun h => e8 (h.resolve_left (by decide)), fun h => e9 (h.resolve_left (by decide)), fun h => e10 (h.resolve_left (by decide)), fun h => e11 (h.resolve_left (by decide)), fun h => e12 (h.resolve_left (by decide)), fun h => e13 (h.resolve_left (by decide)), fun h => e14 (h.resolve_left (by decide)), fun _ => rfl, fun h => e17 (h.resolve_left (by decide)), fun h l ys e => ⟨(hown (h.resolve_left (by decide)) l ys e).1, own_alloc (hown (h.resolve_left (by decide)) l ys e).2 _⟩, fun _ => hB.size, fun h => absurd (h.resolve_left (by decide)) (fun h => hn (hcl 16 _ rfl h ⟨15, .data⟩ (by simp) rfl)), fun _ _ => heap_alloc_new _ _⟩
        | 16, ho =>
          cases Option.some.inj ho
          have ev : a.tmps[7]?.getD undef = .pointer (some ⟨nb, 0, none⟩) := by rw [ha, e15 (hd ⟨15, .data⟩ (by simp) rfl)]; kernel_rfl
          have ev' : a.tmps[35]?.getD undef = .agg #[.int .i64 (rcL rr), .int .i64 (rcS sq rr), .slice va vn vc] := by rw [ha, e13 (hd ⟨13, .data⟩ (by simp) rfl)]; kernel_rfl
          have hz := hnz (hd ⟨15, .data⟩ (by simp) rfl) hn
          have hnb' := hnb (hd ⟨15, .data⟩ (by simp) rfl)
          refine wp_store_row 91 (.tmp 7) (.tmp 35) rfl nb #[.int .i64 (rcL rr), .int .i64 (rcS sq rr), .slice va vn vc] (eval_of ev) (eval_of ev') 91 _ hz (by kernel_rfl) rfl (by simp [Value.oneCell']) ?_
          exact ⟨v23, v24, v25, v26, v27, v28, v29, v30, v31, v32, v33, v34, v22, v35, v36, v7, v8, va, vn, vc, nb, by rw [ha]; kernel_rfl, below_setRow hB hnb' _, fun h => e0 (h.resolve_left (by decide)), fun h => e1 (h.resolve_left (by decide)), fun h => e2 (h.resolve_left (by decide)), fun h => e3 (h.resolve_left (by decide)), fun h => e4 (h.resolve_left (by decide)), fun h => e5 (h.resolve_left (by decide)), fun h => e6 (h.resolve_left (by decide)), fun h => e7 (h.resolve_left (by decide)), fun h => e8 (h.resolve_left (by decide)), fun h => e9 (h.resolve_left (by decide)), fun h => e10 (h.resolve_left (by decide)), fun h => e11 (h.resolve_left (by decide)), fun h => e12 (h.resolve_left (by decide)), fun h => e13 (h.resolve_left (by decide)), fun h => e14 (h.resolve_left (by decide)), fun h => e15 (h.resolve_left (by decide)), fun h => e17 (h.resolve_left (by decide)), fun h l ys e => ⟨(hown (h.resolve_left (by decide)) l ys e).1, own_setRow (hown (h.resolve_left (by decide)) l ys e).2 hz (by decide)⟩, fun h => hnb (h.resolve_left (by decide)), fun _ => setRow_heap _ _ _ _ _ _ hz, fun _ h' => absurd (.inl rfl) h'⟩
        | 17, ho =>
          cases Option.some.inj ho
          have ev : a.tmps[36]?.getD undef = .bool rr.isSome := by rw [ha, e14 (hd ⟨14, .data⟩ (by simp) rfl)]; kernel_rfl
          refine wp_value (w' := w') (v := .bool rr.isSome) (by simp [execOp, ev, go_sem]) ?_
          exact ⟨v23, v24, v25, v26, v27, v28, v29, v30, v31, v32, v33, v34, v22, v35, v36, v7, (.bool rr.isSome), va, vn, vc, nb, by rw [ha]; kernel_rfl, hB, fun h => e0 (h.resolve_left (by decide)), fun h => e1 (h.resolve_left (by decide)), fun h => e2 (h.resolve_left (by decide)), fun h => e3 (h.resolve_left (by decide)), fun h => e4 (h.resolve_left (by decide)), fun h => e5 (h.resolve_left (by decide)), fun h => e6 (h.resolve_left (by decide)), fun h => e7 (h.resolve_left (by decide)), fun h => e8 (h.resolve_left (by decide)), fun h => e9 (h.resolve_left (by decide)), fun h => e10 (h.resolve_left (by decide)), fun h => e11 (h.resolve_left (by decide)), fun h => e12 (h.resolve_left (by decide)), fun h => e13 (h.resolve_left (by decide)), fun h => e14 (h.resolve_left (by decide)), fun h => e15 (h.resolve_left (by decide)), fun _ => rfl, fun h => hown (h.resolve_left (by decide)), fun h => hnb (h.resolve_left (by decide)), fun h => hr (h.resolve_left (by decide)), fun h h' => hnz (h.resolve_left (by decide)) (fun k => h' (.inr k))⟩
        | i + 18, ho => simp at ho
      case done =>
        rintro D a w' ⟨v23, v24, v25, v26, v27, v28, v29, v30, v31, v32, v33, v34, v22, v35, v36, v7, v8, va, vn, vc, nb, ha, hB, e0, e1, e2, e3, e4, e5, e6, e7, e8, e9, e10, e11, e12, e13, e14, e15, e17, hown, hnb, hr, hnz⟩ hall
        have ho := hown (hall 11 (by decide))
        have hnb' := hnb (hall 15 (by decide))
        have hr' := hr (hall 16 (by decide))
        obtain rfl := e0 (hall 0 (by decide))
        obtain rfl := e1 (hall 1 (by decide))
        obtain rfl := e2 (hall 2 (by decide))
        obtain rfl := e3 (hall 3 (by decide))
        obtain rfl := e4 (hall 4 (by decide))
        obtain rfl := e5 (hall 5 (by decide))
        obtain rfl := e6 (hall 6 (by decide))
        obtain rfl := e7 (hall 7 (by decide))
        obtain rfl := e8 (hall 8 (by decide))
        obtain rfl := e9 (hall 9 (by decide))
        obtain rfl := e10 (hall 10 (by decide))
        obtain rfl := e11 (hall 11 (by decide))
        obtain rfl := e12 (hall 12 (by decide))
        obtain rfl := e13 (hall 13 (by decide))
        obtain rfl := e14 (hall 14 (by decide))
        obtain rfl := e15 (hall 15 (by decide))
        obtain rfl := e17 (hall 17 (by decide))
        clear hown hnb hr hnz hall e0 e1 e2 e3 e4 e5 e6 e7 e8 e9 e10 e11 e12 e13 e14 e15 e17
        rw [ha]
        clear ha
        simp only [Act.put, List.setIfInBounds_toArray, List.set_cons_zero, List.set_cons_succ]
        go_wp2_with fail
        go_meet
        case rel => exact ⟨va, vn, vc, nb, rfl, rfl, hB, hnb', hr', ho⟩
    case rest =>
      obtain ⟨va, vn, vc, nb, rfl, rfl, HB, hnb, hr, ho⟩ := hcut
      have Lc := (HB.block lb (lt_of_block L)).trans L
      have Nc := N.below HB
      have N0 : w.heap.size ≤ wr.heap.size := N.size
      have RCc := RC.below HB
      clear hrun hsa hc1 hw0 L N RC X
      have q0 : wc.cell? ⟨nb, 0, none⟩ = some (.int .i64 (rcL rr)) := by rw [cell_of_row _ nb _ _ _ _ hr]; rfl
      obtain ⟨_, c1, _⟩ := log_cells Lc
      replace hsq : Hid (sq = first + (recs.length : Int)) := hsq
      rcases rr with _ | ⟨l, ys⟩
      · have hres : Hid (_ = _) := hrdN.out rfl
        clear hrdN hrdS hrS ho hrr
        go_upto_region 5 with fail
        go_quiet (fail)
        go_wp2
        go_ret
        exact ⟨u5, recs, U, sq, hres.out, rfl, RCc, Lc, ⟨Nc.os, Nc.tape, Nc.output, Nc.size, Nc.block⟩⟩
      · obtain ⟨rfl, O⟩ := ho l ys rfl
        have hres := hrdS.out l ys rfl
        obtain ⟨b1, b2, b3⟩ := hrS.out l ys rfl
        clear hrdN hrdS hrS ho hrr
        change wc.cell? ⟨nb, 0, none⟩ = some (.int .i64 l) at q0
        change wc.heap[nb]? = some (recO l sq (.slice va ys.length vc)) at hr
        by_cases h1 : l < life
        · rw [if_pos (.inl h1)] at hres
          replace hres : Hid (_ = _) := hres
          go_upto_region 5 with fail
          go_quiet (fail)
          go_wp2
          go_ret
          exact ⟨u5, recs, U, sq, hres.out, rfl, RCc, Lc, ⟨Nc.os, Nc.tape, Nc.output, Nc.size, Nc.block⟩⟩
        · by_cases h2 : hl < l
          · rw [if_pos (.inr h2)] at hres
            replace hres : Hid (_ = _) := hres
            go_upto_region 5 with fail
            go_quiet (fail)
            go_wp2
            go_ret
            exact ⟨u5, recs, U, sq, hres.out, rfl, RCc, Lc, ⟨Nc.os, Nc.tape, Nc.output, Nc.size, Nc.block⟩⟩
          · rw [if_neg (by omega)] at hres
            replace hres : Hid (_ = _) := hres
            go_upto_region 5 with fail
            go_quiet (fail)
            have Ld : (wc.drewN nq).heap[lb]? = some (logO p hl half first since sq hs (U : Int) failed) := Lc
            have Nd : But lb w (wc.drewN nq) := ⟨Nc.os, Nc.tape, Nc.output, Nc.size, Nc.block⟩
            have RCd : Recs (wc.drewN nq) w.heap.size u5 recs := RCc
            have Od : (wc.drewN nq).ownsRow w.heap.size 5 1 (.slice va ys.length vc) ys.length (ys.map (Value.int .u8)) := own_mono O N0
            have Rd : (wc.drewN nq).heap[nb]? = some (recO l sq (.slice va ys.length vc)) := hr
            generalize wc.drewN nq = wd at *
            clear Lc Nc RCc O hr HB q0 c1
            have q2 : wd.cell? ⟨nb, 2, none⟩ = some (.slice va ys.length vc) := by rw [cell_of_row _ nb _ _ _ _ Rd]; rfl
            obtain ⟨vs, O1, O2⟩ := RCd
            obtain ⟨i0, hi, hz0, hz1, hz2⟩ := info_parts Try.info38
            have T := heap_alloc_new wd (.cells #[.slice va ys.length vc] 38)
            have Le : (wd.alloc (.cells #[.slice va ys.length vc] 38)).heap[lb]? = _ := (Below.heap_alloc _ _ _ (lt_of_block Ld)).trans Ld
            have Re : (wd.alloc (.cells #[.slice va ys.length vc] 38)).heap[nb]? = _ := (Below.heap_alloc _ _ _ (lt_of_block Rd)).trans Rd
            have Ne := Nd.below (box_below wd (.cells #[.slice va ys.length vc] 38))
            have O1e := own_alloc O1 (.cells #[.slice va ys.length vc] 38)
            have Oe := own_alloc Od (.cells #[.slice va ys.length vc] 38)
            have O2e : ∀ (i : Nat) (zs : List Int), recs[i]? = some zs → ∃ x, vs[i]? = some x ∧ 0 < zs.length ∧ (wd.alloc (.cells #[.slice va ys.length vc] 38)).ownsRow w.heap.size 5 1 x zs.length (zs.map (Value.int .u8)) := fun i zs h => by
              obtain ⟨x, h1, h2, h3⟩ := O2 i zs h
              exact ⟨x, h1, h2, own_alloc h3 _⟩
            have hcell : ∀ i v, ([Value.slice va ys.length vc] : List Value)[i]? = some v → (wd.alloc (.cells #[.slice va ys.length vc] 38)).cell? ((⟨wd.heap.size, 0, none⟩ : Addr).add i) = some v := by
              intro i v hv
              have hi0 : i = 0 := by
                rcases Nat.eq_zero_or_pos i with h | h
                · exact h
                · rw [List.getElem?_eq_none (show 1 ≤ i from h)] at hv; cases hv
              subst hi0
              have : (⟨wd.heap.size, 0, none⟩ : Addr).add 0 = ⟨wd.heap.size, 0, none⟩ := by unfold Addr.add; split <;> simp_all
              rw [this, cell_of_row _ _ 0 _ _ _ T]
              simpa using hv
            have hsz := Ne.size
            go_upto_region 8 with (at_builtin; refine wpList_append_own _ rfl _ _ 44 rfl w.heap.size 38 i0 (.slice none 0 0) 1 24 Try.underlying44 hi hz0 hz1 hz2 rfl (by decide) _ _ _ rfl O1e ⟨wd.heap.size, 0, none⟩ 1 1 [.slice va ys.length vc] rfl rfl hcell (by simp [Value.oneCell']) (by unfold maxLen; omega) (by omega) hsz ?_; intro v' wf O6 G6 _)
            generalize wd.alloc (.cells #[.slice va ys.length vc] 38) = we at *
            have L6 := (G6.block lb (lt_of_block Le) (fun e => own_ne O1e Le (by decide) e.symm)).trans Le
            have R6 := (G6.block nb (lt_of_block Re) (fun e => own_ne O1e Re (by decide) e.symm)).trans Re
            have N6 := Ne.grown O1e (Nat.le_refl _) G6
            have RC6 := Recs.snoc O1e O2e Oe b2 O6 G6
            clear Ld Nd Od Rd O1 O2 T Le Re Ne O1e Oe O2e hcell hsz O6 G6 q2 hi hz0 hz1 hz2
            obtain ⟨K, hK⟩ : ∃ K : Nat, Hid ((ys.length + 111) / 112 = K) := ⟨_, rfl⟩
            rw [hK.out] at hres b3
            have hK1 : 1 ≤ K := by have := hK.out; omega
            have hsec : secs (ys.length : Int) = (K : Int) := by
              unfold secs
              rw [if_neg (by omega)]
              have := hK.out
              omega
            have hw0 : IntKind.i64.wrap ((U : Int) + (K : Int)) = (U : Int) + (K : Int) := by rw [IntKind.wrap_i64]; omega
            have g7 := (log_cells L6).2.2.2.2.2.2.2.1
            have gf := (log_cells L6).2.2.2.2.2.2.2.2.2 7
            have q2 : wf.cell? ⟨nb, 2, none⟩ = some (.slice va ys.length vc) := by rw [cell_of_row _ nb _ _ _ _ R6]; rfl
            go_cut [5] from 22 to 80 (fun v5 wx => v5 = v' ∧ wx = wf.drew.setCell ⟨lb, 7, none⟩ (.int .i64 ((U : Int) + (K : Int))))
            case first =>
              refine wp_region_inv' (fun A D a w' => ∃ v61 v62 v63 v64 v65 v66 v67 v68 v69 v70 v71, a = (((((((((((A.put (some 61) v61).put (some 62) v62).put (some 63) v63).put (some 64) v64).put (some 65) v65).put (some 66) v66).put (some 67) v67).put (some 68) v68).put (some 69) v69).put (some 70) v70).put (some 71) v71) ∧ (D 11 ∨ w' = wf.drew) ∧ (D 0 → v61 = .pointer (some ⟨lb, 0, none⟩)) ∧ (D 1 → v62 = .pointer (some ⟨lb, 0, none⟩)) ∧ (D 2 → v63 = .pointer (some ⟨lb, 7, none⟩)) ∧ (D 3 → v64 = .int .i64 (U : Int)) ∧ (D 4 → v65 = .pointer (some ⟨nb, 2, none⟩)) ∧ (D 5 → v66 = .slice va ys.length vc) ∧ (D 6 → v67 = .int .i64 (ys.length : Int)) ∧ (D 7 → v68 = .int .i64 (K : Int)) ∧ (D 8 → v69 = .int .i64 ((U : Int) + (K : Int))) ∧ (D 9 → v70 = .pointer (some ⟨lb, 0, none⟩)) ∧ (D 10 → v71 = .pointer (some ⟨lb, 7, none⟩)) ∧ (D 11 → w' = wf.drew.setCell ⟨lb, 7, none⟩ (.int .i64 ((U : Int) + (K : Int))))) (by kernel_rfl) (by kernel_rfl) ?mono ?start ?step ?done
              case mono =>
                rintro D D' a w' hD ⟨v61, v62, v63, v64, v65, v66, v67, v68, v69, v70, v71, ha, hw, e0, e1, e2, e3, e4, e5, e6, e7, e8, e9, e10, hq⟩
                exact ⟨v61, v62, v63, v64, v65, v66, v67, v68, v69, v70, v71, ha, hw.imp_left (hD 11).1, fun h => e0 ((hD 0).2 h), fun h => e1 ((hD 1).2 h), fun h => e2 ((hD 2).2 h), fun h => e3 ((hD 3).2 h), fun h => e4 ((hD 4).2 h), fun h => e5 ((hD 5).2 h), fun h => e6 ((hD 6).2 h), fun h => e7 ((hD 7).2 h), fun h => e8 ((hD 8).2 h), fun h => e9 ((hD 9).2 h), fun h => e10 ((hD 10).2 h), fun h => hq ((hD 11).2 h)⟩
              case start => exact ⟨u61, u62, u63, u64, u65, u66, u67, u68, u69, u70, u71, by kernel_rfl, .inr (rfl), fun h => h.elim, fun h => h.elim, fun h => h.elim, fun h => h.elim, fun h => h.elim, fun h => h.elim, fun h => h.elim, fun h => h.elim, fun h => h.elim, fun h => h.elim, fun h => h.elim, fun h => h.elim⟩
              case step =>
                intro i o ho D a w' hI hn hcl hd
                obtain ⟨v61, v62, v63, v64, v65, v66, v67, v68, v69, v70, v71, ha, hw, e0, e1, e2, e3, e4, e5, e6, e7, e8, e9, e10, hq⟩ := hI
                match i, ho with
                | 0, ho =>
                  cases Option.some.inj ho
                  have ev : a.tmps[0]?.getD undef = .pointer (some ⟨lb, 0, none⟩) := by rw [ha]; kernel_rfl
                  refine wp_value (w' := w') (v := .pointer (some ⟨lb, 0, none⟩)) (by simp [execOp, ev, go_sem]) ?_
                  exact ⟨(.pointer (some ⟨lb, 0, none⟩)), v62, v63, v64, v65, v66, v67, v68, v69, v70, v71, by rw [ha]; kernel_rfl, hw.imp_left .inr, fun _ => rfl, fun h => e1 (h.resolve_left (by decide)), fun h => e2 (h.resolve_left (by decide)), fun h => e3 (h.resolve_left (by decide)), fun h => e4 (h.resolve_left (by decide)), fun h => e5 (h.resolve_left (by decide)), fun h => e6 (h.resolve_left (by decide)), fun h => e7 (h.resolve_left (by decide)), fun h => e8 (h.resolve_left (by decide)), fun h => e9 (h.resolve_left (by decide)), fun h => e10 (h.resolve_left (by decide)), fun h => hq (h.resolve_left (by decide))⟩
                | 1, ho =>
                  cases Option.some.inj ho
                  have ev : a.tmps[61]?.getD undef = .pointer (some ⟨lb, 0, none⟩) := by rw [ha, e0 (hd ⟨0, .data⟩ (by simp) rfl)]; kernel_rfl
                  refine wp_value (w' := w') (v := .pointer (some ⟨lb, 0, none⟩)) (by simp [execOp, ev, go_sem]) ?_
                  exact ⟨v61, (.pointer (some ⟨lb, 0, none⟩)), v63, v64, v65, v66, v67, v68, v69, v70, v71, by rw [ha]; kernel_rfl, hw.imp_left .inr, fun h => e0 (h.resolve_left (by decide)), fun _ => rfl, fun h => e2 (h.resolve_left (by decide)), fun h => e3 (h.resolve_left (by decide)), fun h => e4 (h.resolve_left (by decide)), fun h => e5 (h.resolve_left (by decide)), fun h => e6 (h.resolve_left (by decide)), fun h => e7 (h.resolve_left (by decide)), fun h => e8 (h.resolve_left (by decide)), fun h => e9 (h.resolve_left (by decide)), fun h => e10 (h.resolve_left (by decide)), fun h => hq (h.resolve_left (by decide))⟩
                | 2, ho =>
                  cases Option.some.inj ho
                  have ev : a.tmps[62]?.getD undef = .pointer (some ⟨lb, 0, none⟩) := by rw [ha, e1 (hd ⟨1, .data⟩ (by simp) rfl)]; kernel_rfl
                  refine wp_value (w' := w') (v := .pointer (some ⟨lb, 7, none⟩)) (by simp [execOp, ev, go_sem]) ?_
                  exact ⟨v61, v62, (.pointer (some ⟨lb, 7, none⟩)), v64, v65, v66, v67, v68, v69, v70, v71, by rw [ha]; kernel_rfl, hw.imp_left .inr, fun h => e0 (h.resolve_left (by decide)), fun h => e1 (h.resolve_left (by decide)), fun _ => rfl, fun h => e3 (h.resolve_left (by decide)), fun h => e4 (h.resolve_left (by decide)), fun h => e5 (h.resolve_left (by decide)), fun h => e6 (h.resolve_left (by decide)), fun h => e7 (h.resolve_left (by decide)), fun h => e8 (h.resolve_left (by decide)), fun h => e9 (h.resolve_left (by decide)), fun h => e10 (h.resolve_left (by decide)), fun h => hq (h.resolve_left (by decide))⟩
                | 3, ho =>
                  cases Option.some.inj ho
                  have ev : a.tmps[63]?.getD undef = .pointer (some ⟨lb, 7, none⟩) := by rw [ha, e2 (hd ⟨2, .data⟩ (by simp) rfl)]; kernel_rfl
                  have hc : w'.cell? ⟨lb, 7, none⟩ = some (.int .i64 (U : Int)) := by rw [(hw.resolve_left (fun h => (fun h => hn (hcl 8 _ rfl h ⟨3, .data⟩ (by simp) rfl)) (hcl 11 _ rfl h ⟨8, .data⟩ (by simp) rfl)))]; exact g7
                  refine wp_value (w' := w') (v := .int .i64 (U : Int)) (by simp [execOp, ev, go_sem, hc]) ?_
                  exact ⟨v61, v62, v63, (.int .i64 (U : Int)), v65, v66, v67, v68, v69, v70, v71, by rw [ha]; kernel_rfl, hw.imp_left .inr, fun h => e0 (h.resolve_left (by decide)), fun h => e1 (h.resolve_left (by decide)), fun h => e2 (h.resolve_left (by decide)), fun _ => rfl, fun h => e4 (h.resolve_left (by decide)), fun h => e5 (h.resolve_left (by decide)), fun h => e6 (h.resolve_left (by decide)), fun h => e7 (h.resolve_left (by decide)), fun h => e8 (h.resolve_left (by decide)), fun h => e9 (h.resolve_left (by decide)), fun h => e10 (h.resolve_left (by decide)), fun h => hq (h.resolve_left (by decide))⟩
                | 4, ho =>
                  cases Option.some.inj ho
                  have ev : a.tmps[7]?.getD undef = .pointer (some ⟨nb, 0, none⟩) := by rw [ha]; kernel_rfl
                  refine wp_value (w' := w') (v := .pointer (some ⟨nb, 2, none⟩)) (by simp [execOp, ev, go_sem]) ?_
                  exact ⟨v61, v62, v63, v64, (.pointer (some ⟨nb, 2, none⟩)), v66, v67, v68, v69, v70, v71, by rw [ha]; kernel_rfl, hw.imp_left .inr, fun h => e0 (h.resolve_left (by decide)), fun h => e1 (h.resolve_left (by decide)), fun h => e2 (h.resolve_left (by decide)), fun h => e3 (h.resolve_left (by decide)), fun _ => rfl, fun h => e5 (h.resolve_left (by decide)), fun h => e6 (h.resolve_left (by decide)), fun h => e7 (h.resolve_left (by decide)), fun h => e8 (h.resolve_left (by decide)), fun h => e9 (h.resolve_left (by decide)), fun h => e10 (h.resolve_left (by decide)), fun h => hq (h.resolve_left (by decide))⟩
                | 5, ho =>
                  cases Option.some.inj ho
                  have ev : a.tmps[65]?.getD undef = .pointer (some ⟨nb, 2, none⟩) := by rw [ha, e4 (hd ⟨4, .data⟩ (by simp) rfl)]; kernel_rfl
                  have hc : w'.cell? ⟨nb, 2, none⟩ = some (.slice va ys.length vc) := by rw [(hw.resolve_left (fun h => (fun h => (fun h => (fun h => hn (hcl 6 _ rfl h ⟨5, .data⟩ (by simp) rfl)) (hcl 7 _ rfl h ⟨6, .data⟩ (by simp) rfl)) (hcl 8 _ rfl h ⟨7, .data⟩ (by simp) rfl)) (hcl 11 _ rfl h ⟨8, .data⟩ (by simp) rfl)))]; exact q2
                  refine wp_value (w' := w') (v := .slice va ys.length vc) (by simp [execOp, ev, go_sem, hc]) ?_
                  exact ⟨v61, v62, v63, v64, v65, (.slice va ys.length vc), v67, v68, v69, v70, v71, by rw [ha]; kernel_rfl, hw.imp_left .inr, fun h => e0 (h.resolve_left (by decide)), fun h => e1 (h.resolve_left (by decide)), fun h => e2 (h.resolve_left (by decide)), fun h => e3 (h.resolve_left (by decide)), fun h => e4 (h.resolve_left (by decide)), fun _ => rfl, fun h => e6 (h.resolve_left (by decide)), fun h => e7 (h.resolve_left (by decide)), fun h => e8 (h.resolve_left (by decide)), fun h => e9 (h.resolve_left (by decide)), fun h => e10 (h.resolve_left (by decide)), fun h => hq (h.resolve_left (by decide))⟩
                | 6, ho =>
                  cases Option.some.inj ho
                  have ev : a.tmps[66]?.getD undef = .slice va ys.length vc := by rw [ha, e5 (hd ⟨5, .data⟩ (by simp) rfl)]; kernel_rfl
                  refine wp_value (w' := w') (v := .int .i64 (ys.length : Int)) (by simp [execOp, ev, go_sem]) ?_
                  exact ⟨v61, v62, v63, v64, v65, v66, (.int .i64 (ys.length : Int)), v68, v69, v70, v71, by rw [ha]; kernel_rfl, hw.imp_left .inr, fun h => e0 (h.resolve_left (by decide)), fun h => e1 (h.resolve_left (by decide)), fun h => e2 (h.resolve_left (by decide)), fun h => e3 (h.resolve_left (by decide)), fun h => e4 (h.resolve_left (by decide)), fun h => e5 (h.resolve_left (by decide)), fun _ => rfl, fun h => e7 (h.resolve_left (by decide)), fun h => e8 (h.resolve_left (by decide)), fun h => e9 (h.resolve_left (by decide)), fun h => e10 (h.resolve_left (by decide)), fun h => hq (h.resolve_left (by decide))⟩
                | 7, ho =>
                  cases Option.some.inj ho
                  have ev : a.tmps[67]?.getD undef = .int .i64 (ys.length : Int) := by rw [ha, e6 (hd ⟨6, .data⟩ (by simp) rfl)]; kernel_rfl
                  refine wp_enter (f := 39) (args := #[.int .i64 (ys.length : Int)]) (by simp [execOp, ev, go_sem]) ?_
                  refine (show Calls Try.prog 39 #[.int .i64 (ys.length : Int)] w' (fun e w6 => e = .returned (.int .i64 (K : Int)) ∧ w' = w6) from hsec ▸ sectors_any (ys.length : Int) w').mono ?_
                  rintro e w6 ⟨rfl, rfl⟩
                  refine ⟨_, rfl, ?_⟩
                  exact ⟨v61, v62, v63, v64, v65, v66, v67, (.int .i64 (K : Int)), v69, v70, v71, by rw [ha]; kernel_rfl, hw.imp_left .inr, fun h => e0 (h.resolve_left (by decide)), fun h => e1 (h.resolve_left (by decide)), fun h => e2 (h.resolve_left (by decide)), fun h => e3 (h.resolve_left (by decide)), fun h => e4 (h.resolve_left (by decide)), fun h => e5 (h.resolve_left (by decide)), fun h => e6 (h.resolve_left (by decide)), fun _ => rfl, fun h => e8 (h.resolve_left (by decide)), fun h => e9 (h.resolve_left (by decide)), fun h => e10 (h.resolve_left (by decide)), fun h => hq (h.resolve_left (by decide))⟩
                | 8, ho =>
                  cases Option.some.inj ho
                  have ev : a.tmps[64]?.getD undef = .int .i64 (U : Int) := by rw [ha, e3 (hd ⟨3, .data⟩ (by simp) rfl)]; kernel_rfl
                  have ev' : a.tmps[68]?.getD undef = .int .i64 (K : Int) := by rw [ha, e7 (hd ⟨7, .data⟩ (by simp) rfl)]; kernel_rfl
                  refine wp_value (w' := w') (v := .int .i64 ((U : Int) + (K : Int))) (by simp [execOp, ev, ev', go_sem, hw0]) ?_
                  exact ⟨v61, v62, v63, v64, v65, v66, v67, v68, (.int .i64 ((U : Int) + (K : Int))), v70, v71, by rw [ha]; kernel_rfl, hw.imp_left .inr, fun h => e0 (h.resolve_left (by decide)), fun h => e1 (h.resolve_left (by decide)), fun h => e2 (h.resolve_left (by decide)), fun h => e3 (h.resolve_left (by decide)), fun h => e4 (h.resolve_left (by decide)), fun h => e5 (h.resolve_left (by decide)), fun h => e6 (h.resolve_left (by decide)), fun h => e7 (h.resolve_left (by decide)), fun _ => rfl, fun h => e9 (h.resolve_left (by decide)), fun h => e10 (h.resolve_left (by decide)), fun h => hq (h.resolve_left (by decide))⟩
                | 9, ho =>
                  cases Option.some.inj ho
                  have ev : a.tmps[61]?.getD undef = .pointer (some ⟨lb, 0, none⟩) := by rw [ha, e0 (hd ⟨0, .data⟩ (by simp) rfl)]; kernel_rfl
                  refine wp_value (w' := w') (v := .pointer (some ⟨lb, 0, none⟩)) (by simp [execOp, ev, go_sem]) ?_
                  exact ⟨v61, v62, v63, v64, v65, v66, v67, v68, v69, (.pointer (some ⟨lb, 0, none⟩)), v71, by rw [ha]; kernel_rfl, hw.imp_left .inr, fun h => e0 (h.resolve_left (by decide)), fun h => e1 (h.resolve_left (by decide)), fun h => e2 (h.resolve_left (by decide)), fun h => e3 (h.resolve_left (by decide)), fun h => e4 (h.resolve_left (by decide)), fun h => e5 (h.resolve_left (by decide)), fun h => e6 (h.resolve_left (by decide)), fun h => e7 (h.resolve_left (by decide)), fun h => e8 (h.resolve_left (by decide)), fun _ => rfl, fun h => e10 (h.resolve_left (by decide)), fun h => hq (h.resolve_left (by decide))⟩
                | 10, ho =>
                  cases Option.some.inj ho
                  have ev : a.tmps[70]?.getD undef = .pointer (some ⟨lb, 0, none⟩) := by rw [ha, e9 (hd ⟨9, .data⟩ (by simp) rfl)]; kernel_rfl
                  refine wp_value (w' := w') (v := .pointer (some ⟨lb, 7, none⟩)) (by simp [execOp, ev, go_sem]) ?_
                  exact ⟨v61, v62, v63, v64, v65, v66, v67, v68, v69, v70, (.pointer (some ⟨lb, 7, none⟩)), by rw [ha]; kernel_rfl, hw.imp_left .inr, fun h => e0 (h.resolve_left (by decide)), fun h => e1 (h.resolve_left (by decide)), fun h => e2 (h.resolve_left (by decide)), fun h => e3 (h.resolve_left (by decide)), fun h => e4 (h.resolve_left (by decide)), fun h => e5 (h.resolve_left (by decide)), fun h => e6 (h.resolve_left (by decide)), fun h => e7 (h.resolve_left (by decide)), fun h => e8 (h.resolve_left (by decide)), fun h => e9 (h.resolve_left (by decide)), fun _ => rfl, fun h => hq (h.resolve_left (by decide))⟩
                | 11, ho =>
                  cases Option.some.inj ho
                  have ev : a.tmps[71]?.getD undef = .pointer (some ⟨lb, 7, none⟩) := by rw [ha, e10 (hd ⟨10, .data⟩ (by simp) rfl)]; kernel_rfl
                  have ev' : a.tmps[69]?.getD undef = .int .i64 ((U : Int) + (K : Int)) := by rw [ha, e8 (hd ⟨8, .data⟩ (by simp) rfl)]; kernel_rfl
                  obtain rfl := hw.resolve_left hn
                  refine wp_skip (w' := wf.drew.setCell ⟨lb, 7, none⟩ (.int .i64 ((U : Int) + (K : Int)))) (by simp [execOp, Act.eval, ev, ev', go_sem, show wf.drew.cell? ⟨lb, 7, none⟩ = _ from g7, show wf.drew.frozen? ⟨lb, 7, none⟩ = _ from gf]) ?_
                  exact ⟨v61, v62, v63, v64, v65, v66, v67, v68, v69, v70, v71, by rw [ha]; kernel_rfl, .inl (.inl rfl), fun h => e0 (h.resolve_left (by decide)), fun h => e1 (h.resolve_left (by decide)), fun h => e2 (h.resolve_left (by decide)), fun h => e3 (h.resolve_left (by decide)), fun h => e4 (h.resolve_left (by decide)), fun h => e5 (h.resolve_left (by decide)), fun h => e6 (h.resolve_left (by decide)), fun h => e7 (h.resolve_left (by decide)), fun h => e8 (h.resolve_left (by decide)), fun h => e9 (h.resolve_left (by decide)), fun h => e10 (h.resolve_left (by decide)), fun _ => rfl⟩
                | i + 12, ho => simp at ho
              case done =>
                rintro D a w' ⟨v61, v62, v63, v64, v65, v66, v67, v68, v69, v70, v71, ha, hw, e0, e1, e2, e3, e4, e5, e6, e7, e8, e9, e10, hq⟩ hall
                have hq' := hq (hall 11 (by decide))
                obtain rfl := e0 (hall 0 (by decide))
                obtain rfl := e1 (hall 1 (by decide))
                obtain rfl := e2 (hall 2 (by decide))
                obtain rfl := e3 (hall 3 (by decide))
                obtain rfl := e4 (hall 4 (by decide))
                obtain rfl := e5 (hall 5 (by decide))
                obtain rfl := e6 (hall 6 (by decide))
                obtain rfl := e7 (hall 7 (by decide))
                obtain rfl := e8 (hall 8 (by decide))
                obtain rfl := e9 (hall 9 (by decide))
                obtain rfl := e10 (hall 10 (by decide))
                clear hw hq hall e0 e1 e2 e3 e4 e5 e6 e7 e8 e9 e10
                rw [ha]
                clear ha
                simp only [Act.put, List.setIfInBounds_toArray, List.set_cons_zero, List.set_cons_succ]
                subst hq'
                go_wp2_with fail
                go_meet
                case rel => exact ⟨rfl, rfl⟩
            case rest =>
              obtain ⟨h5, rfl⟩ := hcut
              rw [h5]
              clear h5
              have hbl : nb ≠ lb := by
                rintro rfl
                rw [L6] at R6
                exact absurd (cells_ty R6) (by decide)
              have L7 := log_set7 (w := wf.drew) L6 ((U : Int) + (K : Int))
              have R7 : (wf.drew.setCell ⟨lb, 7, none⟩ (.int .i64 ((U : Int) + (K : Int)))).heap[nb]? = some (recO l sq (.slice va ys.length vc)) := (heap_setCell_other _ _ _ _ hbl).trans R6
              have N7 : But lb w (wf.drew.setCell ⟨lb, 7, none⟩ (.int .i64 ((U : Int) + (K : Int)))) := But.set ⟨N6.os, N6.tape, N6.output, N6.size, N6.block⟩
              have RC7 : Recs (wf.drew.setCell ⟨lb, 7, none⟩ (.int .i64 ((U : Int) + (K : Int)))) w.heap.size v' (recs ++ [ys]) := Recs.set (w := wf.drew) RC6 L6 (by decide) (by decide)
              generalize wf.drew.setCell ⟨lb, 7, none⟩ (.int .i64 ((U : Int) + (K : Int))) = wg at *
              clear L6 R6 N6 RC6 g7 gf q2 hw0
              have hw1 : IntKind.i64.wrap (sq + 1) = sq + 1 := by have := hsq.out; rw [IntKind.wrap_i64]; omega
              have g5 := (log_cells L7).2.2.2.2.2.1
              have gf := (log_cells L7).2.2.2.2.2.2.2.2.2 5
              have L8 := log_set5 L7 (sq + 1)
              have R8 : (wg.setCell ⟨lb, 5, none⟩ (.int .i64 (sq + 1))).heap[nb]? = some (recO l sq (.slice va ys.length vc)) := (heap_setCell_other _ _ _ _ hbl).trans R7
              have N8 := N7.set (i := 5) (v := .int .i64 (sq + 1))
              have RC8 := RC7.set (i := 5) (x := .int .i64 (sq + 1)) L7 (by decide) (by decide)
              have q0 : (wg.setCell ⟨lb, 5, none⟩ (.int .i64 (sq + 1))).cell? ⟨nb, 0, none⟩ = some (.int .i64 l) := by rw [cell_of_row _ nb _ _ _ _ R8]; rfl
              have u0 := usedOf_log L0
              have u8' := usedOf_log L8
              go_wp2
              go_roundw
              case rel => exact ⟨recs ++ [ys], U + K, sq + 1, l, rfl, by omega, by simp; omega, by have := hsq.out; simp; omega, by push_cast; exact L8, RC8, N8, by have := hres.out; rw [show m + 1 - (recs ++ [ys]).length = m - recs.length by simp]; exact this⟩
              case measure =>
                rw [u0, show usedOf (wg.setCell ⟨lb, 5, none⟩ (.int .i64 (sq + 1))) lb = U + K from by rw [u8']; omega]
                omega
end
end Go.Proofs.Ytofgphiamllmdab
