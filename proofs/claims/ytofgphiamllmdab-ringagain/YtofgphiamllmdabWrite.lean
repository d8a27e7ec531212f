/- Disk.Write. -/
import Derived.Test.YtofgphiamllmdabChunk
import Derived.Test.YtofgphiamllmdabFull
import Derived.Test.YtofgphiamllmdabAppl
namespace Go.Proofs.Ytofgphiamllmdab
open Go.RowKit Go.Shelf
set_option maxRecDepth 100000
attribute [local go_sem] Oper.semAt_some

/-- A sector of bytes. -/
def ch (xs : List Int) (k : Nat) : List Int := (xs.drop (128 * k)).take 128
theorem ch_sec {xs : List Int} {m : Nat} (hl : xs.length = 128 * m) (hb : ∀ x ∈ xs, 0 ≤ x ∧ x < 256) (k : Nat) (hk : k < m) : IsSec (ch xs k) :=
  ⟨by unfold ch; rw [List.length_take, List.length_drop, hl]; omega, fun x hx => hb x (List.mem_of_mem_drop (List.mem_of_mem_take hx))⟩
/-- Writes, one behind the other. -/
def wsP {m : Nat} (at' : Int) (xs : List Int) (pre : List (Fin m)) : List (Int × List Int) := pre.zipIdx.map fun q => (at' + (q.2 : Int), ch xs q.1.1)
theorem wsP_snoc {m : Nat} (at' : Int) (xs : List Int) (pre : List (Fin m)) (x : Fin m) : wsP at' xs (pre ++ [x]) = wsP at' xs pre ++ [(at' + (pre.length : Int), ch xs x.1)] := by
  unfold wsP
  rw [List.zipIdx_append]
  simp
theorem wsP_len {m : Nat} (at' : Int) (xs : List Int) (pre : List (Fin m)) : (wsP at' xs pre).length = pre.length := by simp [wsP]
/-- The bytes that are handed in, as they lie. -/
structure Bytes (w : World) (gb off : Nat) (xs : List Int) : Prop where
  byte : ∀ x ∈ xs, 0 ≤ x ∧ x < 256
  cell : ∀ i, i < xs.length → w.cell? ⟨gb, off + i, none⟩ = some (.int .u8 (xs.getD i 0))
theorem Bytes.same {w w' : World} {gb off : Nat} {xs : List Int} (h : Bytes w gb off xs) (e : w'.heap[gb]? = w.heap[gb]?) : Bytes w' gb off xs :=
  ⟨h.byte, fun i hi => (World.cell?_of_block e).trans (h.cell i hi)⟩

/-- The boxes of a call of Write. -/
def Boxed3 (sl : Value) (W : World) (b : Nat) (p : Nat) (at' r : Int) : Prop :=
  (W.heap[b + 1 + 1 + 1]? = some (.cells #[sl] 38 (0, 0)) ∧ W.heap[b + 1 + 1 + 1 + 1]? = some (.cells #[.int .i64 128] 3 (0, 0))) ∧ W.heap[b]? = some (.cells #[.pointer (some ⟨p, 0, none⟩)] 24 (0, 0)) ∧ W.heap[b + 1]? = some (.cells #[.int .i64 at'] 3 (0, 0)) ∧ W.heap[b + 1 + 1]? = some (.cells #[.int .i64 r] 28 (0, 0))

theorem notrow {W : World} {B i : Nat} {row : Option Nat} {o : Obj} (hr : ∀ r, row = some r → B ≤ r ∧ ∃ o : Obj, W.heap[r]? = some o ∧ o.isCells = false) (hi : W.heap[i]? = some o) (h : i < B ∨ o.isCells = true) : some i ≠ row := by
  intro e
  obtain ⟨h1, o', h2, h3⟩ := hr i e.symm
  rcases h with h | h
  · omega
  · rw [hi] at h2
    cases h2
    rw [h] at h3
    cases h3
section
variable {w W W' : World} {n₀ p bs bn B : Nat} {pv pv' : Value} {size : Int} {G0 G1 : Int → List Int} {L : List (Int × List Int)} {left : Int} {dead : Bool} {ro : Option Nat}
theorem Dev.row (h : Dev W n₀ p bs bn pv size G0 G1 L left dead) (hg : W.grownBy W' ro) (hr : ∀ r, ro = some r → B ≤ r ∧ ∃ o : Obj, W.heap[r]? = some o ∧ o.isCells = false) (h1 : bs < B) (h2 : bn < B) : Dev W' n₀ p bs bn pv size G0 G1 L left dead :=
  ⟨(hg.block _ h.lt (notrow hr h.obj (.inr rfl))).trans h.obj, h.safe.same (hg.block _ h.safe.lt (by obtain ⟨f, ⟨_, _, hb, _⟩, _⟩ := h.safe; exact notrow hr hb (.inl h1))),
    h.now.same (hg.block _ h.now.lt (by obtain ⟨f, ⟨_, _, hb, _⟩, _⟩ := h.now; exact notrow hr hb (.inl h2))), own_same h.pend (fun g hg' => by obtain ⟨_, cur, hh⟩ := own_block h.pend hg'; exact hg.block _ (lt_of_block hh) (notrow hr hh (.inr rfl))), h.secs, h.ne, h.fromP, h.fromS, h.fromN⟩
theorem Fr.row (h : Fr p bs bn w pv W pv') (hg : W.grownBy W' ro) (hr : ∀ r, ro = some r → B ≤ r ∧ ∃ o : Obj, W.heap[r]? = some o ∧ o.isCells = false) (hB : w.heap.size ≤ B) : Fr p bs bn w pv W' pv' :=
  ⟨hg.os.trans h.os, hg.tape.trans h.tape, hg.output.trans h.output, Nat.le_trans h.size hg.size, fun i hi h1 h2 h3 h4 => by
    obtain ⟨e1, e2⟩ := h.keep i hi h1 h2 h3 h4
    refine ⟨(hg.block i (Nat.lt_of_lt_of_le hi h.size) (fun e => ?_)).trans e1, e2⟩
    have := (hr i e.symm).1
    omega⟩
end
theorem Boxed3.row {sl : Value} {W W' : World} {b p B : Nat} {at' r : Int} {row : Option Nat} (h : Boxed3 sl W b p at' r) (hg : W.grownBy W' row) (hr : ∀ r, row = some r → B ≤ r ∧ ∃ o : Obj, W.heap[r]? = some o ∧ o.isCells = false) : Boxed3 sl W' b p at' r := by
  have g : ∀ {i t : Nat} {c : Array Value}, W.heap[i]? = some (Obj.cells c t (0, 0)) → W'.heap[i]? = some (Obj.cells c t (0, 0)) := fun hi => (hg.block _ (lt_of_block hi) (notrow hr hi (.inr rfl))).trans hi
  exact ⟨⟨g h.1.1, g h.1.2⟩, g h.2.1, g h.2.2.1, g h.2.2.2⟩

section
variable {w : World} {n₀ p bs bn : Nat} {pv : Value} {size : Int} {G0 G1 : Int → List Int} {L : List (Int × List Int)} {left : Int} {dead : Bool}

theorem Fr.keepsFrom {W w' : World} {B : Nat} {pv' pv2 : Value} {n : Nat} {ys : List Value} (h : Fr p bs bn W pv' w' pv2) (hD : W.ownsRow n₀ 107 129 pv' n ys) (hp : p < B) (hs : bs < B) (hn : bn < B) : KeepsFrom B W w' :=
  ⟨h.size, fun k o hk ho hc => (h.keep k (lt_of_block ho) (by omega) (by omega) (by omega) (fun e => by
    obtain ⟨_, cur, hh⟩ := own_block hD e
    rw [ho] at hh
    cases hh
    cases hc)).1.trans ho⟩
theorem Fr.kept {W w' : World} {pv' pv2 : Value} {n i t : Nat} {ys : List Value} {c : Array Value} (h : Fr p bs bn W pv' w' pv2) (hD : W.ownsRow n₀ 107 129 pv' n ys) (hi : W.heap[i]? = some (.cells c t (0, 0))) (ht : t ≠ 107) (h1 : i ≠ p) (h2 : i ≠ bs) (h3 : i ≠ bn) : w'.heap[i]? = some (.cells c t (0, 0)) :=
  (h.keep i (lt_of_block hi) h1 h2 h3 (fun e => by
    obtain ⟨_, cur, hh⟩ := own_block hD e
    rw [hi] at hh
    cases hh
    exact ht rfl)).1.trans hi
theorem Dev.far (h : Dev w n₀ p bs bn pv size G0 G1 L left dead) {b i t : Nat} {c : Array Value} (v : Value) (hb : w.heap[b]? = some (.cells c t (0, 0))) (ht : t ≠ 107) (h1 : b ≠ p) : Dev (w.setCell ⟨b, i, none⟩ v) n₀ p bs bn pv size G0 G1 L left dead :=
  ⟨(heap_setCell_other _ _ _ _ h1.symm).trans h.obj, h.safe.same (heap_setCell_other _ _ _ _ (by rintro rfl; obtain ⟨f, ⟨_, _, hh, _⟩, _⟩ := h.safe; rw [hh] at hb; cases hb)), h.now.same (heap_setCell_other _ _ _ _ (by rintro rfl; obtain ⟨f, ⟨_, _, hh, _⟩, _⟩ := h.now; rw [hh] at hb; cases hb)),
    own_same h.pend (fun g hg => heap_setCell_other _ _ _ _ (by rintro rfl; obtain ⟨_, cur, hh⟩ := own_block h.pend hg; rw [hh] at hb; cases hb; exact ht rfl)), h.secs, h.ne, h.fromP, h.fromS, h.fromN⟩
theorem Fr.far {W : World} {pv' : Value} (h : Fr p bs bn w pv W pv') {b : Nat} (i : Nat) (v : Value) (hb : w.heap.size ≤ b) : Fr p bs bn w pv (W.setCell ⟨b, i, none⟩ v) pv' :=
  ⟨h.os, h.tape, h.output, by simpa using h.size, fun j hj h1 h2 h3 h4 => by
    obtain ⟨e1, e2⟩ := h.keep j hj h1 h2 h3 h4
    exact ⟨(heap_setCell_other _ _ _ _ (by show j ≠ b; omega)).trans e1, e2⟩⟩
/-- How a device stands behind some of the writes. -/
def Mid (w : World) (n₀ p bs bn : Nat) (pv : Value) (size : Int) (G0 G1 : Int → List Int) (L : List (Int × List Int)) (left : Int) (at' : Int) (xs : List Int) {m : Nat} (pre : List (Fin m)) (d : Bool) (W : World) : Prop :=
  ∃ pv', Dev W n₀ p bs bn pv' size G0 (appl G1 (wsP at' xs pre)) (L ++ wsP at' xs pre) (max 0 (left - pre.length)) d ∧ Fr p bs bn w pv W pv'

theorem run_arr57 {a : Act} {w : World} {o : Oper} {gb off : Nat} (h1 : a.eval (.tmp 39) = .slice (some ⟨gb, off, none⟩) 128 128) (ho : o.op = .sliceToArrayPointer 105 (.tmp 39)) : (execOp a.eval o).run Try.prog w = .ok (.value (.pointer (some ⟨gb, off, none⟩))) w := by
  have hr : (Instr.arrayAt 105 (.slice (some ⟨gb, off, none⟩) 128 128)).run Try.prog w = .ok (.pointer (some ⟨gb, off, none⟩)) w := by simp [Instr.arrayAt, run_underlying Try.underlying105]
  simp only [execOp, ho, h1, Sem.run_bind, hr, Result.andThen_ok]
  rfl
theorem run_load57 {a : Act} {w : World} {o : Oper} {ad : Addr} {ys : List Int} (h1 : a.eval (.tmp 40) = .pointer (some ad)) (ho : o.op = .load 105 (.tmp 40)) (h : (loadCells ad 128).run Try.prog w = .ok (cellsB ys) w) : (execOp a.eval o).run Try.prog w = .ok (.value (.agg (cellsB ys))) w := by
  simp only [execOp, ho, h1, Instr.loadAt, Instr.sureAddr, Sem.run_bind, Sem.run_pure, Result.andThen_ok, load57 h]
theorem load_cells {w : World} {gb off m : Nat} {xs : List Int} (h : Bytes w gb off xs) (hl : xs.length = 128 * m) (x : Fin m) : (loadCells ⟨gb, off + 128 * x.1, none⟩ 128).run Try.prog w = .ok (cellsB (ch xs x.1)) w := by
  have hs := ch_sec hl h.byte x.1 x.2
  have hx := x.2
  have hr := run_loadCells_list (P := Try.prog) w ⟨gb, off + 128 * x.1, none⟩ ((ch xs x.1).map (Value.int .u8)) (fun j v hj => by
    have hjl : j < 128 := by
      have := (List.getElem?_eq_some_iff.1 hj).1
      simpa [hs.len] using this
    have hadd : (⟨gb, off + 128 * x.1, none⟩ : Addr).add j = ⟨gb, off + 128 * x.1 + j, none⟩ := by unfold Addr.add; split <;> simp_all
    rw [hadd, Nat.add_assoc, h.cell _ (by rw [hl]; omega)]
    rw [← hj, List.getElem?_map]
    unfold ch
    rw [List.getElem?_take_of_lt hjl, List.getElem?_drop]
    simp [show 128 * x.1 + j < xs.length by rw [hl]; omega])
  rw [List.length_map, hs.len] at hr
  exact hr
set_option maxRecDepth 100000 in
set_option maxHeartbeats 4000000 in
theorem Write_some (h : Dev w n₀ p bs bn pv size G0 G1 L left dead) (hs1 : size ≤ 4096) (at' : Int) (h0 : 0 ≤ at') (gb off cap m : Nat) (hm : 128 * m ≤ cap) (hc : cap ≤ maxLen) (hm0 : 0 < m) (hsz : at' + m ≤ size) (xs : List Int) (hxl : xs.length = 128 * m) (hx : Bytes w gb off xs)
    (hg0 : gb < w.heap.size) (hg1 : gb ≠ p) (hg2 : gb ≠ bs) (hg3 : gb ≠ bn) (hg4 : pv.ownBlock ≠ some gb) (hl0 : 0 ≤ left) (hl1 : left ≤ 9223372036854775807) (hL : L.length ≤ 999990000) :
    Calls Try.prog 29 #[.pointer (some ⟨p, 0, none⟩), .int .i64 at', .slice (some ⟨gb, off, none⟩) (128 * m) cap] w fun e w' =>
      (e = .returned (.int .i64 0) ∧ dead = false ∧ (left = 0 ∨ (m : Int) < left) ∧ Mid w n₀ p bs bn pv size G0 G1 L left at' xs (List.finRange m) false w') ∨
      (e = .returned (.int .i64 14) ∧ ∃ j, j < m ∧ ((dead = true ∧ j = 0) ∨ (dead = false ∧ left = j + 1)) ∧ Mid w n₀ p bs bn pv size G0 G1 L left at' xs ((List.finRange m).take j) true w') := by
  unfold maxLen at hc
  have hB : ∀ o1 o2 o3, ∀ i, i < w.heap.size → (((w.alloc o1).alloc o2).alloc o3).heap[i]? = w.heap[i]? := fun o1 o2 o3 i hi => (Below.heap_alloc _ _ _ (by simp <;> omega)).trans ((Below.heap_alloc _ _ _ (by simp <;> omega)).trans (Below.heap_alloc _ _ _ hi))
  have hD := h.same (hB (.cells #[.pointer (some ⟨p, 0, none⟩)] 24) (.cells #[.int .i64 at'] 3) (.cells #[.int .i64 0] 28))
  have hw1 : IntKind.i64.wrap (128 * (m : Int) + 128) = 128 * (m : Int) + 128 := by rw [IntKind.wrap_i64]; omega
  have hw2 : IntKind.i64.wrap (128 * (m : Int) + 127) = 128 * (m : Int) + 127 := by rw [IntKind.wrap_i64]; omega
  refine (callsIn_wide (n := 9)).1 ?_
  refine callsIn_of_wp_marks Try.func29 rfl trivial ?_ rfl
  simp only [Try.ntmps29, List.size_toArray, List.length_cons, List.length_nil, Nat.reduceAdd, Nat.reduceSub, Array.replicate_succ, Array.replicate_zero, List.push_toArray, List.append_toArray, List.nil_append, List.cons_append]
  gi_wp2_with (first | (refine ⟨trivial, ?_⟩; gi_at_call 66; refine (callsIn_wide.2 (from_any hD (by omega) hs1 at' h0 (by omega))).mono ?_; rintro e w' ⟨rfl, rfl⟩) | (refine ⟨trivial, ?_⟩; gi_at_call 67; refine (chunk_in _ _ _ _ _).mono ?_; rintro e w' ⟨rfl, rfl⟩))
  obtain ⟨W0, hW0⟩ : ∃ W0, ((((w.alloc (.cells #[.pointer (some ⟨p, 0, none⟩)] 24)).alloc (.cells #[.int .i64 at'] 3)).alloc (.cells #[.int .i64 0] 28)).alloc (.cells #[.slice (some ⟨gb, off, none⟩) (128 * m) cap] 38)).alloc (.cells #[.int .i64 128] 3) = W0 := ⟨_, rfl⟩
  have hsz0 : W0.heap.size = w.heap.size + 5 := by rw [← hW0]; simp
  have hk0 : ∀ i, i < w.heap.size → W0.heap[i]? = w.heap[i]? := fun i hi => by
    rw [← hW0]
    exact (Below.heap_alloc _ _ _ (by simp <;> omega)).trans ((Below.heap_alloc _ _ _ (by simp <;> omega)).trans (hB _ _ _ i hi))
  have hF0 : Fr p bs bn w pv W0 pv := ⟨by rw [← hW0]; rfl, by rw [← hW0]; rfl, by rw [← hW0]; rfl, by omega, fun i hi _ _ _ h4 => ⟨hk0 i hi, h4⟩⟩
  have hb0 : W0.heap[w.heap.size]? = some (.cells #[.pointer (some ⟨p, 0, none⟩)] 24 (0, 0)) := by
    rw [← hW0]
    exact (Below.heap_alloc _ _ _ (by simp <;> omega)).trans ((Below.heap_alloc _ _ _ (by simp <;> omega)).trans ((Below.heap_alloc _ _ _ (by simp <;> omega)).trans ((Below.heap_alloc _ _ _ (by simp <;> omega)).trans (heap_alloc_new _ _))))
  have hb1 : W0.heap[w.heap.size + 1]? = some (.cells #[.int .i64 at'] 3 (0, 0)) := by
    rw [← hW0]
    exact (Below.heap_alloc _ _ _ (by simp <;> omega)).trans ((Below.heap_alloc _ _ _ (by simp <;> omega)).trans ((Below.heap_alloc _ _ _ (by simp <;> omega)).trans (by have := heap_alloc_new (w.alloc (.cells #[.pointer (some ⟨p, 0, none⟩)] 24)) (.cells #[.int .i64 at'] 3); simpa using this)))
  have hb2 : W0.heap[w.heap.size + 1 + 1]? = some (.cells #[.int .i64 0] 28 (0, 0)) := by
    rw [← hW0]
    exact (Below.heap_alloc _ _ _ (by simp <;> omega)).trans ((Below.heap_alloc _ _ _ (by simp <;> omega)).trans (by have := heap_alloc_new ((w.alloc (.cells #[.pointer (some ⟨p, 0, none⟩)] 24)).alloc (.cells #[.int .i64 at'] 3)) (.cells #[.int .i64 0] 28); simpa using this))
  have hb3 : W0.heap[w.heap.size + 1 + 1 + 1]? = some (.cells #[.slice (some ⟨gb, off, none⟩) (128 * m) cap] 38 (0, 0)) := by
    rw [← hW0]
    exact (Below.heap_alloc _ _ _ (by simp <;> omega)).trans (by have := heap_alloc_new (((w.alloc (.cells #[.pointer (some ⟨p, 0, none⟩)] 24)).alloc (.cells #[.int .i64 at'] 3)).alloc (.cells #[.int .i64 0] 28)) (.cells #[.slice (some ⟨gb, off, none⟩) (128 * m) cap] 38); simpa using this)
  have hb4 : W0.heap[w.heap.size + 1 + 1 + 1 + 1]? = some (.cells #[.int .i64 128] 3 (0, 0)) := by
    rw [← hW0]
    have := heap_alloc_new ((((w.alloc (.cells #[.pointer (some ⟨p, 0, none⟩)] 24)).alloc (.cells #[.int .i64 at'] 3)).alloc (.cells #[.int .i64 0] 28)).alloc (.cells #[.slice (some ⟨gb, off, none⟩) (128 * m) cap] 38)) (.cells #[.int .i64 128] 3)
    simpa using this
  have hD0 := h.same hk0
  rw [hW0]
  clear hW0 hB hD hw1 hw2
  have hpl := h.lt
  have hbl := h.safe.lt
  have hnl := h.now.lt
  refine wpIn_rangeFunc_ownG rfl (by decide) (gf := 86) (lb := #[.pointer (some ⟨w.heap.size + 1 + 1 + 1, 0, none⟩), .pointer (some ⟨w.heap.size + 1 + 1 + 1 + 1, 0, none⟩)]) rfl trivial (enters_of Try.func86 (by kernel_rfl) rfl)
    (chunk_stops _ (by decide) (w.heap.size + 1 + 1 + 1) (w.heap.size + 1 + 1 + 1 + 1) gb off cap m W0 hm (by unfold maxLen; omega) hb3 hb4) (fun h k => ⟨k.1.trans h.1, k.2.trans h.2⟩) (fun W l o o' hl _ _ _ => ⟨World.putObj_heap_other (by omega), World.putObj_heap_other (by omega)⟩) (Below.refl _ _) (fun _ => rfl)
    (fun pre W => (dead = true → pre = []) ∧ (left = 0 ∨ dead = true ∨ (pre.length : Int) < left) ∧ Mid w n₀ p bs bn pv size G0 G1 L left at' xs pre dead W ∧ Boxed3 (.slice (some ⟨gb, off, none⟩) (128 * m) cap) W w.heap.size p (at' + pre.length) 0)
    (fun c q W => c = .ret ∧ ∃ pre x, q = pre ++ [x] ∧ ((dead = true ∧ pre = []) ∨ (dead = false ∧ left = (pre.length : Int) + 1)) ∧ Mid w n₀ p bs bn pv size G0 G1 L left at' xs pre true W ∧ Boxed3 (.slice (some ⟨gb, off, none⟩) (128 * m) cap) W w.heap.size p (at' + pre.length) 14)
    (fun s A B row hs hg hr => by
      obtain ⟨a1, a2, ⟨pv', a3, a4⟩, a5⟩ := hs
      exact ⟨a1, a2, ⟨pv', a3.row hg hr (by omega) (by omega), a4.row hg hr (by omega)⟩, a5.row hg hr⟩)
    (fun c s A B row hs hg hr => by
      obtain ⟨a0, pre, x, a1, a2, ⟨pv', a3, a4⟩, a5⟩ := hs
      exact ⟨a0, pre, x, a1, a2, ⟨pv', a3.row hg hr (by omega) (by omega), a4.row hg hr (by omega)⟩, a5.row hg hr⟩)
    ⟨fun _ => rfl, by by_cases hd : dead = true
                      · exact .inr (.inl hd)
                      · by_cases hl : left = 0
                        · exact .inl hl
                        · exact .inr (.inr (by simp; omega)), ⟨pv, by simpa [wsP, appl, show max 0 left = left by omega] using hD0, hF0⟩, ⟨hb3, hb4⟩, hb0, by simpa using hb1, hb2⟩
    (fun x => { tmps := #[.pointer (some ⟨p, 0, none⟩), .int .i64 at', .slice (some ⟨gb, off, none⟩) (128 * m) cap, .pointer (some ⟨w.heap.size, 0, none⟩), .pointer (some ⟨w.heap.size + 1, 0, none⟩), undef, .pointer (some ⟨w.heap.size + 1 + 1, 0, none⟩), .int .i64 ((128 * (m : Int) + 128 - 1) / 128), .slice (some ⟨gb, off + 128 * x.1, none⟩) 128 128, .pointer (some ⟨p, 0, none⟩), .bool false, .slice (some ⟨gb, off, none⟩) (128 * m) cap, .int .i64 (128 * (m : Int)), .int .i64 (128 * (m : Int) + 128), .int .i64 (128 * (m : Int) + 128 - 1), .int .i64 ((128 * (m : Int) + 128 - 1) / 128), .int .i64 at', .bool (decide (at' < 0)), .bool (decide (at' < 0)), .int .i64 ((128 * (m : Int) + 128 - 1) / 128), .pointer (some ⟨p, 0, none⟩), .int .i64 at', .int .i64 (max 0 (size - at')), .bool (decide (max 0 (size - at') < (128 * (m : Int) + 128 - 1) / 128)), .bool (decide (at' < 0) || decide (max 0 (size - at') < (128 * (m : Int) + 128 - 1) / 128)), .slice (some ⟨gb, off, none⟩) (128 * m) cap, .int .i64 (128 * (m : Int)), .bool false, .bool false, .slice (some ⟨gb, off, none⟩) (128 * m) cap, .int .i64 (128 * (m : Int)), .int .i64 0, .bool false, .bool false, .slice (some ⟨gb, off, none⟩) (128 * m) cap, .func (.func 86) #[] #[.pointer (some ⟨w.heap.size + 1 + 1 + 1, 0, none⟩), .pointer (some ⟨w.heap.size + 1 + 1 + 1 + 1, 0, none⟩)], .slice (some ⟨gb, off + 128 * x.1, none⟩) 128 128, undef, undef, undef, undef, undef, undef, undef, undef, undef], defers := [] }) ?assign ?body ?done ?stop
  case assign =>
    intro l x W K hK
    gi_wp2
    exact hK
  case body =>
    rintro l pre x W ⟨hp1, hp2, ⟨pv', hDv, hFr⟩, hbx⟩ hlen
    have c3 : W.cell? ⟨w.heap.size, 0, none⟩ = some (.pointer (some ⟨p, 0, none⟩)) := by rw [cell_of_row W _ 0 _ _ _ hbx.2.1]; rfl
    have c4 : W.cell? ⟨w.heap.size + 1, 0, none⟩ = some (.int .i64 (at' + (pre.length : Int))) := by rw [cell_of_row W _ 0 _ _ _ hbx.2.2.1]; rfl
    have hSx : IsSec (ch xs x.1) := ch_sec hxl hx.byte x.1 x.2
    obtain ⟨kgb, ngb⟩ := hFr.keep gb hg0 hg1 hg2 hg3 hg4
    have hcx := load_cells (w := W.drew) (hx.same kgb) hxl x
    have hDd : Dev W.drew n₀ p bs bn pv' size G0 (appl G1 (wsP at' xs pre)) (L ++ wsP at' xs pre) (max 0 (left - pre.length)) dead := hDv.same (fun _ _ => rfl)
    have hFd : Fr p bs bn W pv' W.drew pv' := ⟨rfl, rfl, rfl, Nat.le_refl _, fun _ _ _ _ _ h => ⟨rfl, h⟩⟩
    have hbe : ∀ i o, i = w.heap.size ∨ i = w.heap.size + 1 ∨ i = w.heap.size + 1 + 1 → W.heap[i]? = some o → (i ≠ p ∧ i ≠ bs ∧ i ≠ bn) := fun i o hi _ => ⟨by omega, by omega, by omega⟩
    by_cases hdie : max 0 (left - (pre.length : Int)) = 1 ∨ dead = true
    · gi_wp2
      refine wpIn_region_inv' (fun A D a w' => ∃ v37 v38 v39 v40 v41 v42 v43, a = (((((((A.put (some 37) v37).put (some 38) v38).put (some 39) v39).put (some 40) v40).put (some 41) v41).put (some 42) v42).put (some 43) v43) ∧ (D 5 ∨ w' = W.drew) ∧ (D 5 → Dev w' n₀ p bs bn pv' size G0 (appl G1 (wsP at' xs pre)) (L ++ wsP at' xs pre) (max 0 (left - pre.length)) true ∧ Fr p bs bn W.drew pv' w' pv') ∧ (D 0 → v37 = .pointer (some ⟨p, 0, none⟩)) ∧ (D 1 → v38 = .int .i64 (at' + (pre.length : Int))) ∧ (D 2 → v39 = .slice (some ⟨gb, off + 128 * x.1, none⟩) 128 128) ∧ (D 3 → v40 = .pointer (some ⟨gb, off + 128 * x.1, none⟩)) ∧ (D 4 → v41 = .agg (cellsB (ch xs x.1))) ∧ (D 5 → v42 = .bool false) ∧ (D 6 → v43 = .bool true)) (by kernel_rfl) (by kernel_rfl) ?rmono ?rstart ?rstep ?rdone
      case rmono =>
        rintro D D' a w' hD ⟨v37, v38, v39, v40, v41, v42, v43, ha, hw, hQ, e0, e1, e2, e3, e4, e5, e6⟩
        exact ⟨v37, v38, v39, v40, v41, v42, v43, ha, hw.imp_left (hD 5).1, fun h => hQ ((hD 5).2 h), fun h => e0 ((hD 0).2 h), fun h => e1 ((hD 1).2 h), fun h => e2 ((hD 2).2 h), fun h => e3 ((hD 3).2 h), fun h => e4 ((hD 4).2 h), fun h => e5 ((hD 5).2 h), fun h => e6 ((hD 6).2 h)⟩
      case rstart => exact ⟨undef, undef, undef, undef, undef, undef, undef, by kernel_rfl, .inr (rfl), fun h => h.elim, fun h => h.elim, fun h => h.elim, fun h => h.elim, fun h => h.elim, fun h => h.elim, fun h => h.elim, fun h => h.elim⟩
      case rstep =>
        intro i o ho D a w' hI hn hcl hd
        obtain ⟨v37, v38, v39, v40, v41, v42, v43, ha, hw, hQ, e0, e1, e2, e3, e4, e5, e6⟩ := hI
        match i, ho with
        | 0, ho =>
          cases Option.some.inj ho
          refine roundIn_op (by intro c h; cases h) ?_
          have ev : a.tmps[3]?.getD undef = .pointer (some ⟨w.heap.size, 0, none⟩) := by rw [ha]; kernel_rfl
          have hc : w'.cell? ⟨w.heap.size, 0, none⟩ = some (.pointer (some ⟨p, 0, none⟩)) := by rw [hw.resolve_left (fun h => hn (hcl 5 _ rfl h ⟨0, .data⟩ (by simp) rfl))]; exact c3
          refine wp_value (w' := w') (v := .pointer (some ⟨p, 0, none⟩)) (by simp [execOp, ev, go_sem, hc]) ?_
          exact ⟨(.pointer (some ⟨p, 0, none⟩)), v38, v39, v40, v41, v42, v43, by rw [ha]; kernel_rfl, hw.imp_left .inr, fun h => hQ (h.resolve_left (by decide)), fun _ => rfl, fun h => e1 (h.resolve_left (by decide)), fun h => e2 (h.resolve_left (by decide)), fun h => e3 (h.resolve_left (by decide)), fun h => e4 (h.resolve_left (by decide)), fun h => e5 (h.resolve_left (by decide)), fun h => e6 (h.resolve_left (by decide))⟩
        | 1, ho =>
          cases Option.some.inj ho
          refine roundIn_op (by intro c h; cases h) ?_
          have ev : a.tmps[4]?.getD undef = .pointer (some ⟨w.heap.size + 1, 0, none⟩) := by rw [ha]; kernel_rfl
          have hc : w'.cell? ⟨w.heap.size + 1, 0, none⟩ = some (.int .i64 (at' + (pre.length : Int))) := by rw [hw.resolve_left (fun h => hn (hcl 5 _ rfl h ⟨1, .data⟩ (by simp) rfl))]; exact c4
          refine wp_value (w' := w') (v := .int .i64 (at' + (pre.length : Int))) (by simp [execOp, ev, go_sem, hc]) ?_
          exact ⟨v37, (.int .i64 (at' + (pre.length : Int))), v39, v40, v41, v42, v43, by rw [ha]; kernel_rfl, hw.imp_left .inr, fun h => hQ (h.resolve_left (by decide)), fun h => e0 (h.resolve_left (by decide)), fun _ => rfl, fun h => e2 (h.resolve_left (by decide)), fun h => e3 (h.resolve_left (by decide)), fun h => e4 (h.resolve_left (by decide)), fun h => e5 (h.resolve_left (by decide)), fun h => e6 (h.resolve_left (by decide))⟩
        | 2, ho =>
          cases Option.some.inj ho
          refine roundIn_op (by intro c h; cases h) ?_
          have ev : a.tmps[8]?.getD undef = .slice (some ⟨gb, off + 128 * x.1, none⟩) 128 128 := by rw [ha]; kernel_rfl
          refine wp_value (w' := w') (v := .slice (some ⟨gb, off + 128 * x.1, none⟩) 128 128) (by simp [execOp, ev, go_sem]) ?_
          exact ⟨v37, v38, (.slice (some ⟨gb, off + 128 * x.1, none⟩) 128 128), v40, v41, v42, v43, by rw [ha]; kernel_rfl, hw.imp_left .inr, fun h => hQ (h.resolve_left (by decide)), fun h => e0 (h.resolve_left (by decide)), fun h => e1 (h.resolve_left (by decide)), fun _ => rfl, fun h => e3 (h.resolve_left (by decide)), fun h => e4 (h.resolve_left (by decide)), fun h => e5 (h.resolve_left (by decide)), fun h => e6 (h.resolve_left (by decide))⟩
        | 3, ho =>
          cases Option.some.inj ho
          refine roundIn_op (by intro c h; cases h) ?_
          have ev : a.tmps[39]?.getD undef = .slice (some ⟨gb, off + 128 * x.1, none⟩) 128 128 := by rw [ha, e2 (hd ⟨2, .data⟩ (by simp) rfl)]; kernel_rfl
          refine wp_value (w' := w') (v := .pointer (some ⟨gb, off + 128 * x.1, none⟩)) (run_arr57 (eval_of ev) rfl) ?_
          exact ⟨v37, v38, v39, (.pointer (some ⟨gb, off + 128 * x.1, none⟩)), v41, v42, v43, by rw [ha]; kernel_rfl, hw.imp_left .inr, fun h => hQ (h.resolve_left (by decide)), fun h => e0 (h.resolve_left (by decide)), fun h => e1 (h.resolve_left (by decide)), fun h => e2 (h.resolve_left (by decide)), fun _ => rfl, fun h => e4 (h.resolve_left (by decide)), fun h => e5 (h.resolve_left (by decide)), fun h => e6 (h.resolve_left (by decide))⟩
        | 4, ho =>
          cases Option.some.inj ho
          refine roundIn_op (by intro c h; cases h) ?_
          have ev : a.tmps[40]?.getD undef = .pointer (some ⟨gb, off + 128 * x.1, none⟩) := by rw [ha, e3 (hd ⟨3, .data⟩ (by simp) rfl)]; kernel_rfl
          refine wp_value (w' := w') (v := .agg (cellsB (ch xs x.1))) (run_load57 (eval_of ev) rfl (by rw [hw.resolve_left (fun h => hn (hcl 5 _ rfl h ⟨4, .data⟩ (by simp) rfl))]; exact hcx)) ?_
          exact ⟨v37, v38, v39, v40, (.agg (cellsB (ch xs x.1))), v42, v43, by rw [ha]; kernel_rfl, hw.imp_left .inr, fun h => hQ (h.resolve_left (by decide)), fun h => e0 (h.resolve_left (by decide)), fun h => e1 (h.resolve_left (by decide)), fun h => e2 (h.resolve_left (by decide)), fun h => e3 (h.resolve_left (by decide)), fun _ => rfl, fun h => e5 (h.resolve_left (by decide)), fun h => e6 (h.resolve_left (by decide))⟩
        | 5, ho =>
          cases Option.some.inj ho
          refine roundIn_op (by intro c h; cases h) ?_
          have ev : a.tmps[37]?.getD undef = .pointer (some ⟨p, 0, none⟩) := by rw [ha, e0 (hd ⟨0, .data⟩ (by simp) rfl)]; kernel_rfl
          have ev' : a.tmps[38]?.getD undef = .int .i64 (at' + (pre.length : Int)) := by rw [ha, e1 (hd ⟨1, .data⟩ (by simp) rfl)]; kernel_rfl
          have ev'' : a.tmps[41]?.getD undef = .agg (cellsB (ch xs x.1)) := by rw [ha, e4 (hd ⟨4, .data⟩ (by simp) rfl)]; kernel_rfl
          obtain rfl := hw.resolve_left hn
          refine wp_enter (f := 68) (args := #[.pointer (some ⟨p, 0, none⟩), .int .i64 (at' + (pre.length : Int)), .agg (cellsB (ch xs x.1))]) (by simp [execOp, ev, ev', ev'', go_sem]) ?_
          refine (write_dead hDd (at' + (pre.length : Int)) (xs := ch xs x.1) hdie).mono ?_
          rintro e w6 ⟨rfl, k1, k2⟩
          refine ⟨_, rfl, ?_⟩
          exact ⟨v37, v38, v39, v40, v41, (.bool false), v43, by rw [ha]; kernel_rfl, .inl (.inl rfl), fun _ => ⟨k1, k2⟩, fun h => e0 (h.resolve_left (by decide)), fun h => e1 (h.resolve_left (by decide)), fun h => e2 (h.resolve_left (by decide)), fun h => e3 (h.resolve_left (by decide)), fun h => e4 (h.resolve_left (by decide)), fun _ => rfl, fun h => e6 (h.resolve_left (by decide))⟩
        | 6, ho =>
          cases Option.some.inj ho
          refine roundIn_op (by intro c h; cases h) ?_
          have ev : a.tmps[42]?.getD undef = .bool false := by rw [ha, e5 (hd ⟨5, .data⟩ (by simp) rfl)]; kernel_rfl
          refine wp_value (w' := w') (v := .bool true) (by simp [execOp, ev, go_sem]) ?_
          exact ⟨v37, v38, v39, v40, v41, v42, (.bool true), by rw [ha]; kernel_rfl, hw.imp_left .inr, fun h => hQ (h.resolve_left (by decide)), fun h => e0 (h.resolve_left (by decide)), fun h => e1 (h.resolve_left (by decide)), fun h => e2 (h.resolve_left (by decide)), fun h => e3 (h.resolve_left (by decide)), fun h => e4 (h.resolve_left (by decide)), fun h => e5 (h.resolve_left (by decide)), fun _ => rfl⟩
        | i + 7, ho => simp at ho
      case rdone =>
        rintro D a w' ⟨v37, v38, v39, v40, v41, v42, v43, ha, hw, hQ, e0, e1, e2, e3, e4, e5, e6⟩ hall
        obtain ⟨q1, q2⟩ := hQ (hall 5 (by decide))
        obtain rfl := e5 (hall 5 (by decide))
        obtain rfl := e6 (hall 6 (by decide))
        clear hw hQ hall e0 e1 e2 e3 e4 e5 e6
        have q3 := hFd.trans q2
        have s1 := q3.kept hDv.pend hbx.2.1 (by decide) (by omega) (by omega) (by omega)
        have s2 := q3.kept hDv.pend hbx.2.2.1 (by decide) (by omega) (by omega) (by omega)
        have s3 := q3.kept hDv.pend hbx.2.2.2 (by decide) (by omega) (by omega) (by omega)
        have s4 := q3.kept hDv.pend hbx.1.1 (by decide) (by omega) (by omega) (by omega)
        have s5 := q3.kept hDv.pend hbx.1.2 (by decide) (by omega) (by omega) (by omega)
        have hKF := q3.keepsFrom (B := W0.heap.size) hDv.pend (by omega) (by omega) (by omega)
        have c6 : w'.cell? ⟨w.heap.size + 1 + 1, 0, none⟩ = some (.int .i64 0) := by rw [cell_of_row w' _ 0 _ _ _ s3]; rfl
        have f6 : w'.frozen? ⟨w.heap.size + 1 + 1, 0, none⟩ = false := frozen_of_row w' _ 0 _ _ s3
        rw [ha]
        clear ha
        simp only [Act.put, List.setIfInBounds_toArray, List.set_cons_zero, List.set_cons_succ]
        gi_wp2
        refine ⟨hKF.trans ((KeepsOthers.setCell w' _ _).from _), rfl, pre, x, rfl, ?_, ⟨pv', q1.far _ s3 (by decide) (by omega), (hFr.trans q3).far _ _ (by omega)⟩, ⟨(heap_setCell_other _ _ _ _ (by show _ ≠ w.heap.size + 1 + 1; omega)).trans s4, (heap_setCell_other _ _ _ _ (by show _ ≠ w.heap.size + 1 + 1; omega)).trans s5⟩, (heap_setCell_other _ _ _ _ (by show _ ≠ w.heap.size + 1 + 1; omega)).trans s1, (heap_setCell_other _ _ _ _ (by show _ ≠ w.heap.size + 1 + 1; omega)).trans s2, ?_⟩
        · by_cases hd : dead = true
          · exact .inl ⟨hd, hp1 hd⟩
          · exact .inr ⟨by simpa using hd, by have := hdie.resolve_right hd; omega⟩
        · rw [heap_setCell_same w' _ 0 _ _ _ s3]; rfl
    · have hdf : dead = false := by simpa using fun e => hdie (.inr e)
      have hl9 : max 0 (left - (pre.length : Int)) ≠ 1 := fun e => hdie (.inl e)
      have hL9 : (L ++ wsP at' xs pre).length ≤ 1000000000 := by rw [List.length_append, wsP_len]; omega
      have hDd2 : Dev W.drew n₀ p bs bn pv' size G0 (appl G1 (wsP at' xs pre)) (L ++ wsP at' xs pre) (max 0 (left - pre.length)) false := by rw [← hdf]; exact hDd
      clear hDd
      gi_wp2
      refine wpIn_region_inv' (fun A D a w' => ∃ v37 v38 v39 v40 v41 v42 v43, a = (((((((A.put (some 37) v37).put (some 38) v38).put (some 39) v39).put (some 40) v40).put (some 41) v41).put (some 42) v42).put (some 43) v43) ∧ (D 5 ∨ w' = W.drew) ∧ (D 5 → ∃ pv2, Dev w' n₀ p bs bn pv2 size G0 (fun i => if i = at' + (pre.length : Int) then ch xs x.1 else appl G1 (wsP at' xs pre) i) (L ++ wsP at' xs pre ++ [(at' + (pre.length : Int), ch xs x.1)]) (max 0 (max 0 (left - pre.length) - 1)) false ∧ Fr p bs bn W.drew pv' w' pv2) ∧ (D 0 → v37 = .pointer (some ⟨p, 0, none⟩)) ∧ (D 1 → v38 = .int .i64 (at' + (pre.length : Int))) ∧ (D 2 → v39 = .slice (some ⟨gb, off + 128 * x.1, none⟩) 128 128) ∧ (D 3 → v40 = .pointer (some ⟨gb, off + 128 * x.1, none⟩)) ∧ (D 4 → v41 = .agg (cellsB (ch xs x.1))) ∧ (D 5 → v42 = .bool true) ∧ (D 6 → v43 = .bool false)) (by kernel_rfl) (by kernel_rfl) ?rmono ?rstart ?rstep ?rdone
      case rmono =>
        rintro D D' a w' hD ⟨v37, v38, v39, v40, v41, v42, v43, ha, hw, hQ, e0, e1, e2, e3, e4, e5, e6⟩
        exact ⟨v37, v38, v39, v40, v41, v42, v43, ha, hw.imp_left (hD 5).1, fun h => hQ ((hD 5).2 h), fun h => e0 ((hD 0).2 h), fun h => e1 ((hD 1).2 h), fun h => e2 ((hD 2).2 h), fun h => e3 ((hD 3).2 h), fun h => e4 ((hD 4).2 h), fun h => e5 ((hD 5).2 h), fun h => e6 ((hD 6).2 h)⟩
      case rstart => exact ⟨undef, undef, undef, undef, undef, undef, undef, by kernel_rfl, .inr (rfl), fun h => h.elim, fun h => h.elim, fun h => h.elim, fun h => h.elim, fun h => h.elim, fun h => h.elim, fun h => h.elim, fun h => h.elim⟩
      case rstep =>
        intro i o ho D a w' hI hn hcl hd
        obtain ⟨v37, v38, v39, v40, v41, v42, v43, ha, hw, hQ, e0, e1, e2, e3, e4, e5, e6⟩ := hI
        match i, ho with
        | 0, ho =>
          cases Option.some.inj ho
          refine roundIn_op (by intro c h; cases h) ?_
          have ev : a.tmps[3]?.getD undef = .pointer (some ⟨w.heap.size, 0, none⟩) := by rw [ha]; kernel_rfl
          have hc : w'.cell? ⟨w.heap.size, 0, none⟩ = some (.pointer (some ⟨p, 0, none⟩)) := by rw [hw.resolve_left (fun h => hn (hcl 5 _ rfl h ⟨0, .data⟩ (by simp) rfl))]; exact c3
          refine wp_value (w' := w') (v := .pointer (some ⟨p, 0, none⟩)) (by simp [execOp, ev, go_sem, hc]) ?_
          exact ⟨(.pointer (some ⟨p, 0, none⟩)), v38, v39, v40, v41, v42, v43, by rw [ha]; kernel_rfl, hw.imp_left .inr, fun h => hQ (h.resolve_left (by decide)), fun _ => rfl, fun h => e1 (h.resolve_left (by decide)), fun h => e2 (h.resolve_left (by decide)), fun h => e3 (h.resolve_left (by decide)), fun h => e4 (h.resolve_left (by decide)), fun h => e5 (h.resolve_left (by decide)), fun h => e6 (h.resolve_left (by decide))⟩
        | 1, ho =>
          cases Option.some.inj ho
          refine roundIn_op (by intro c h; cases h) ?_
          have ev : a.tmps[4]?.getD undef = .pointer (some ⟨w.heap.size + 1, 0, none⟩) := by rw [ha]; kernel_rfl
          have hc : w'.cell? ⟨w.heap.size + 1, 0, none⟩ = some (.int .i64 (at' + (pre.length : Int))) := by rw [hw.resolve_left (fun h => hn (hcl 5 _ rfl h ⟨1, .data⟩ (by simp) rfl))]; exact c4
          refine wp_value (w' := w') (v := .int .i64 (at' + (pre.length : Int))) (by simp [execOp, ev, go_sem, hc]) ?_
          exact ⟨v37, (.int .i64 (at' + (pre.length : Int))), v39, v40, v41, v42, v43, by rw [ha]; kernel_rfl, hw.imp_left .inr, fun h => hQ (h.resolve_left (by decide)), fun h => e0 (h.resolve_left (by decide)), fun _ => rfl, fun h => e2 (h.resolve_left (by decide)), fun h => e3 (h.resolve_left (by decide)), fun h => e4 (h.resolve_left (by decide)), fun h => e5 (h.resolve_left (by decide)), fun h => e6 (h.resolve_left (by decide))⟩
        | 2, ho =>
          cases Option.some.inj ho
          refine roundIn_op (by intro c h; cases h) ?_
          have ev : a.tmps[8]?.getD undef = .slice (some ⟨gb, off + 128 * x.1, none⟩) 128 128 := by rw [ha]; kernel_rfl
          refine wp_value (w' := w') (v := .slice (some ⟨gb, off + 128 * x.1, none⟩) 128 128) (by simp [execOp, ev, go_sem]) ?_
          exact ⟨v37, v38, (.slice (some ⟨gb, off + 128 * x.1, none⟩) 128 128), v40, v41, v42, v43, by rw [ha]; kernel_rfl, hw.imp_left .inr, fun h => hQ (h.resolve_left (by decide)), fun h => e0 (h.resolve_left (by decide)), fun h => e1 (h.resolve_left (by decide)), fun _ => rfl, fun h => e3 (h.resolve_left (by decide)), fun h => e4 (h.resolve_left (by decide)), fun h => e5 (h.resolve_left (by decide)), fun h => e6 (h.resolve_left (by decide))⟩
        | 3, ho =>
          cases Option.some.inj ho
          refine roundIn_op (by intro c h; cases h) ?_
          have ev : a.tmps[39]?.getD undef = .slice (some ⟨gb, off + 128 * x.1, none⟩) 128 128 := by rw [ha, e2 (hd ⟨2, .data⟩ (by simp) rfl)]; kernel_rfl
          refine wp_value (w' := w') (v := .pointer (some ⟨gb, off + 128 * x.1, none⟩)) (run_arr57 (eval_of ev) rfl) ?_
          exact ⟨v37, v38, v39, (.pointer (some ⟨gb, off + 128 * x.1, none⟩)), v41, v42, v43, by rw [ha]; kernel_rfl, hw.imp_left .inr, fun h => hQ (h.resolve_left (by decide)), fun h => e0 (h.resolve_left (by decide)), fun h => e1 (h.resolve_left (by decide)), fun h => e2 (h.resolve_left (by decide)), fun _ => rfl, fun h => e4 (h.resolve_left (by decide)), fun h => e5 (h.resolve_left (by decide)), fun h => e6 (h.resolve_left (by decide))⟩
        | 4, ho =>
          cases Option.some.inj ho
          refine roundIn_op (by intro c h; cases h) ?_
          have ev : a.tmps[40]?.getD undef = .pointer (some ⟨gb, off + 128 * x.1, none⟩) := by rw [ha, e3 (hd ⟨3, .data⟩ (by simp) rfl)]; kernel_rfl
          refine wp_value (w' := w') (v := .agg (cellsB (ch xs x.1))) (run_load57 (eval_of ev) rfl (by rw [hw.resolve_left (fun h => hn (hcl 5 _ rfl h ⟨4, .data⟩ (by simp) rfl))]; exact hcx)) ?_
          exact ⟨v37, v38, v39, v40, (.agg (cellsB (ch xs x.1))), v42, v43, by rw [ha]; kernel_rfl, hw.imp_left .inr, fun h => hQ (h.resolve_left (by decide)), fun h => e0 (h.resolve_left (by decide)), fun h => e1 (h.resolve_left (by decide)), fun h => e2 (h.resolve_left (by decide)), fun h => e3 (h.resolve_left (by decide)), fun _ => rfl, fun h => e5 (h.resolve_left (by decide)), fun h => e6 (h.resolve_left (by decide))⟩
        | 5, ho =>
          cases Option.some.inj ho
          refine roundIn_op (by intro c h; cases h) ?_
          have ev : a.tmps[37]?.getD undef = .pointer (some ⟨p, 0, none⟩) := by rw [ha, e0 (hd ⟨0, .data⟩ (by simp) rfl)]; kernel_rfl
          have ev' : a.tmps[38]?.getD undef = .int .i64 (at' + (pre.length : Int)) := by rw [ha, e1 (hd ⟨1, .data⟩ (by simp) rfl)]; kernel_rfl
          have ev'' : a.tmps[41]?.getD undef = .agg (cellsB (ch xs x.1)) := by rw [ha, e4 (hd ⟨4, .data⟩ (by simp) rfl)]; kernel_rfl
          obtain rfl := hw.resolve_left hn
          refine wp_enter (f := 68) (args := #[.pointer (some ⟨p, 0, none⟩), .int .i64 (at' + (pre.length : Int)), .agg (cellsB (ch xs x.1))]) (by simp [execOp, ev, ev', ev'', go_sem]) ?_
          refine (write_done hDd2 (at' + (pre.length : Int)) hSx hl9 (by omega) (by omega) hL9).mono ?_
          rintro e w6 ⟨rfl, k1⟩
          refine ⟨_, rfl, ?_⟩
          exact ⟨v37, v38, v39, v40, v41, (.bool true), v43, by rw [ha]; kernel_rfl, .inl (.inl rfl), fun _ => k1, fun h => e0 (h.resolve_left (by decide)), fun h => e1 (h.resolve_left (by decide)), fun h => e2 (h.resolve_left (by decide)), fun h => e3 (h.resolve_left (by decide)), fun h => e4 (h.resolve_left (by decide)), fun _ => rfl, fun h => e6 (h.resolve_left (by decide))⟩
        | 6, ho =>
          cases Option.some.inj ho
          refine roundIn_op (by intro c h; cases h) ?_
          have ev : a.tmps[42]?.getD undef = .bool true := by rw [ha, e5 (hd ⟨5, .data⟩ (by simp) rfl)]; kernel_rfl
          refine wp_value (w' := w') (v := .bool false) (by simp [execOp, ev, go_sem]) ?_
          exact ⟨v37, v38, v39, v40, v41, v42, (.bool false), by rw [ha]; kernel_rfl, hw.imp_left .inr, fun h => hQ (h.resolve_left (by decide)), fun h => e0 (h.resolve_left (by decide)), fun h => e1 (h.resolve_left (by decide)), fun h => e2 (h.resolve_left (by decide)), fun h => e3 (h.resolve_left (by decide)), fun h => e4 (h.resolve_left (by decide)), fun h => e5 (h.resolve_left (by decide)), fun _ => rfl⟩
        | i + 7, ho => simp at ho
      case rdone =>
        rintro D a w' ⟨v37, v38, v39, v40, v41, v42, v43, ha, hw, hQ, e0, e1, e2, e3, e4, e5, e6⟩ hall
        obtain ⟨pv2, q1, q2⟩ := hQ (hall 5 (by decide))
        obtain rfl := e5 (hall 5 (by decide))
        obtain rfl := e6 (hall 6 (by decide))
        clear hw hQ hall e0 e1 e2 e3 e4 e5 e6
        have q3 := hFd.trans q2
        have s1 := q3.kept hDv.pend hbx.2.1 (by decide) (by omega) (by omega) (by omega)
        have s2 := q3.kept hDv.pend hbx.2.2.1 (by decide) (by omega) (by omega) (by omega)
        have s3 := q3.kept hDv.pend hbx.2.2.2 (by decide) (by omega) (by omega) (by omega)
        have s4 := q3.kept hDv.pend hbx.1.1 (by decide) (by omega) (by omega) (by omega)
        have s5 := q3.kept hDv.pend hbx.1.2 (by decide) (by omega) (by omega) (by omega)
        have hKF := q3.keepsFrom (B := W0.heap.size) hDv.pend (by omega) (by omega) (by omega)
        have c6 : w'.cell? ⟨w.heap.size + 1, 0, none⟩ = some (.int .i64 (at' + (pre.length : Int))) := by rw [cell_of_row w' _ 0 _ _ _ s2]; rfl
        have f6 : w'.frozen? ⟨w.heap.size + 1, 0, none⟩ = false := frozen_of_row w' _ 0 _ _ s2
        have hw6 : IntKind.i64.wrap (at' + (pre.length : Int) + 1) = at' + (pre.length : Int) + 1 := by rw [IntKind.wrap_i64]; omega
        rw [ha]
        clear ha
        simp only [Act.put, List.setIfInBounds_toArray, List.set_cons_zero, List.set_cons_succ]
        gi_wp2
        have hne : ∀ i, i ≠ w.heap.size + 1 → (w'.setCell ⟨w.heap.size + 1, 0, none⟩ (.int .i64 (at' + (pre.length : Int) + 1))).heap[i]? = w'.heap[i]? := fun i hi => heap_setCell_other _ _ _ _ hi
        refine ⟨hKF.trans ((KeepsOthers.setCell w' _ _).from _), ⟨(hne _ (by omega)).trans (s4.trans hbx.1.1.symm), (hne _ (by omega)).trans (s5.trans hbx.1.2.symm)⟩, fun e => (by rw [hdf] at e; cases e), ?_, ⟨pv2, ?_, (hFr.trans q3).far _ _ (by omega)⟩, ⟨(hne _ (by omega)).trans s4, (hne _ (by omega)).trans s5⟩, (hne _ (by omega)).trans s1, ?_, (hne _ (by omega)).trans s3⟩
        · rcases hp2 with hp2 | hp2 | hp2
          · exact .inl hp2
          · rw [hdf] at hp2; cases hp2
          · exact .inr (.inr (by simp; omega))
        · have hdv := q1.far (i := 0) (.int .i64 (at' + (pre.length : Int) + 1)) s2 (by decide) (by omega)
          rw [wsP_snoc, appl_snoc, ← List.append_assoc, hdf, show max 0 (left - ((pre ++ [x]).length : Int)) = max 0 (max 0 (left - (pre.length : Int)) - 1) by simp; omega]
          exact hdv
        · rw [heap_setCell_same w' _ 0 _ _ _ s2]
          simp
          omega
  case done =>
    rintro D ys W hD rfl ⟨hp1, hp2, ⟨pv', hDv, hFr⟩, hbx⟩ hK
    have c6 : W.cell? ⟨w.heap.size + 1 + 1, 0, none⟩ = some (.int .i64 0) := by rw [cell_of_row W _ 0 _ _ _ hbx.2.2.2]; rfl
    have f6 : W.frozen? ⟨w.heap.size + 1 + 1, 0, none⟩ = false := frozen_of_row W _ 0 _ _ hbx.2.2.2
    have hm1 : dead = false := by
      by_cases hd : dead = true
      · have := congrArg List.length (hp1 hd)
        simp at this
        omega
      · simpa using hd
    have hm2 : left = 0 ∨ (m : Int) < left := by
      rcases hp2 with hp2 | hp2 | hp2
      · exact .inl hp2
      · rw [hm1] at hp2; cases hp2
      · exact .inr (by simpa using hp2)
    rw [hm1] at hDv
    have hK' : (W.setCell ⟨w.heap.size + 1 + 1, 0, none⟩ (.int .i64 0)).heap[D]? = some (.deferred (some [])) := (KeepsOthers.setCell W _ _).same D _ hK rfl
    have hDf := (hDv.far (i := 0) (.int .i64 0) hbx.2.2.2 (by decide) (by omega)).row (B := W0.heap.size) (grownBy_putObj' _ D (.deferred none)) (fun r e => by cases e; exact ⟨hD, _, hK', rfl⟩) (by omega) (by omega)
    have hFf := (hFr.far (b := w.heap.size + 1 + 1) 0 (.int .i64 0) (by omega)).row (B := W0.heap.size) (grownBy_putObj' _ D (.deferred none)) (fun r e => by cases e; exact ⟨hD, _, hK', rfl⟩) (by omega)
    have s6 : (W.setCell ⟨w.heap.size + 1 + 1, 0, none⟩ (.int .i64 0)).heap[w.heap.size + 1 + 1]? = some (.cells #[.int .i64 0] 28 (0, 0)) := by rw [heap_setCell_same W _ 0 _ _ _ hbx.2.2.2]; rfl
    have s7 : ((W.setCell ⟨w.heap.size + 1 + 1, 0, none⟩ (.int .i64 0)).putObj D (.deferred none)).heap[w.heap.size + 1 + 1]? = some (.cells #[.int .i64 0] 28 (0, 0)) := (World.putObj_heap_other (by omega)).trans s6
    have c7 : ((W.setCell ⟨w.heap.size + 1 + 1, 0, none⟩ (.int .i64 0)).putObj D (.deferred none)).cell? ⟨w.heap.size + 1 + 1, 0, none⟩ = some (.int .i64 0) := by rw [cell_of_row _ _ 0 _ _ _ s7]; rfl
    gi_wp2
    refine ⟨by simp, .inl ⟨_, _, rfl, run_takeDeferred hK', ?_⟩⟩
    refine ⟨.int .i64 0, by simp [results, Try.results29, go_sem, c7], .inl ⟨rfl, hm1, hm2, pv', hDf, hFf⟩⟩
  case stop =>
    rintro D c q W hD hpre ⟨rfl, pre, x, rfl, hd, ⟨pv', hDv, hFr⟩, hbx⟩ hK
    have hlen : pre.length + 1 ≤ m := by simpa using hpre.length_le
    have hpt : pre = (List.finRange m).take pre.length := List.prefix_iff_eq_take.1 ((List.prefix_append pre [x]).trans hpre)
    have hDf := hDv.row (B := W0.heap.size) (grownBy_putObj' _ D (.deferred none)) (fun r e => by cases e; exact ⟨hD, _, hK, rfl⟩) (by omega) (by omega)
    have hFf := hFr.row (B := W0.heap.size) (grownBy_putObj' _ D (.deferred none)) (fun r e => by cases e; exact ⟨hD, _, hK, rfl⟩) (by omega)
    have s7 : (W.putObj D (.deferred none)).heap[w.heap.size + 1 + 1]? = some (.cells #[.int .i64 14] 28 (0, 0)) := (World.putObj_heap_other (by omega)).trans hbx.2.2.2
    have c7 : (W.putObj D (.deferred none)).cell? ⟨w.heap.size + 1 + 1, 0, none⟩ = some (.int .i64 14) := by rw [cell_of_row _ _ 0 _ _ _ s7]; rfl
    gi_wp2
    refine ⟨by simp, .inl ⟨_, _, rfl, run_takeDeferred hK, ?_⟩⟩
    refine ⟨.int .i64 14, by simp [results, Try.results29, go_sem, c7], .inr ⟨rfl, pre.length, by omega, hd.imp (fun h => ⟨h.1, by rw [h.2]; rfl⟩) id, ?_⟩⟩
    rw [← hpt]
    exact ⟨pv', hDf, hFf⟩
end
end Go.Proofs.Ytofgphiamllmdab
