/- head.sector. -/
import Derived.Test.YtofgphiamllmdabLay
namespace Go.Proofs.Ytofgphiamllmdab
open Go.RowKit
set_option maxRecDepth 100000

def nameB : List Int := [76, 65, 80, 73, 68, 65, 82, 89]
/-- A head's bytes that are summed. -/
def head27 (life half first since : Int) : List Int := nameB ++ be 6 life ++ be 1 half ++ be 6 first ++ be 6 since
/-- A head's bytes. -/
def headB (life half first since : Int) : List Int := fillB (head27 life half first since ++ be 4 (crc (head27 life half first since)))
theorem bz_byte (size : Nat) (n : Int) (i : Nat) : 0 ≤ bz size n i ∧ bz size n i < 256 := by unfold bz; omega
theorem be_byte (size : Nat) (n : Int) : ∀ x ∈ be size n, 0 ≤ x ∧ x < 256 := by
  intro x hx
  obtain ⟨i, _, rfl⟩ := List.mem_map.1 hx
  exact bz_byte size n i
theorem head27_len (life half first since : Int) : (head27 life half first since).length = 27 := by simp [head27, nameB, be_len]
theorem head27_byte (life half first since : Int) : ∀ x ∈ head27 life half first since, 0 ≤ x ∧ x < 256 := by
  intro x hx
  unfold head27 at hx
  simp only [List.mem_append] at hx
  rcases hx with (((hx | hx) | hx) | hx) | hx
  · unfold nameB at hx
    simp at hx
    omega
  all_goals exact be_byte _ _ x hx
theorem fill_byte {A : List Int} (h : ∀ x ∈ A, 0 ≤ x ∧ x < 256) : ∀ x ∈ fillB A, 0 ≤ x ∧ x < 256 := by
  intro x hx
  unfold fillB at hx
  rcases List.mem_append.1 hx with hx | hx
  · exact h x hx
  · obtain ⟨_, rfl⟩ := List.mem_replicate.1 hx
    decide
theorem headB_sec (life half first since : Int) : IsSec (headB life half first since) :=
  ⟨fillB_len (by rw [List.length_append, head27_len, be_len]; decide), fill_byte (fun x hx => by
    rcases List.mem_append.1 hx with hx | hx
    · exact head27_byte _ _ _ _ x hx
    · exact be_byte _ _ x hx)⟩
theorem zero78 : Try.zeroCells78 = cellsB (fillB []) := by kernel_rfl
theorem load78 {w : World} {b : Nat} {xs : List Int} (hx : ArrS w b 78 xs) (hl : xs.length = 128) : (loadVar 78 ⟨b, 0, none⟩).run Try.prog w = .ok (.agg (cellsB xs)) w := by
  have hr := run_loadCells_list (P := Try.prog) w ⟨b, 0, none⟩ (xs.map (Value.int .u8)) (fun i v hi => by
    have hadd : (⟨b, 0, none⟩ : Addr).add i = ⟨b, i, none⟩ := by unfold Addr.add; split <;> simp_all
    rw [hadd, cell_of_row w b i _ _ _ hx]
    simpa [cellsB] using hi)
  rw [List.length_map, hl] at hr
  have hi : (Try.prog.info? 78).map (·.size) = some 128 := by kernel_rfl
  cases hq : Try.prog.info? 78 with
  | none => simp [hq] at hi
  | some i =>
    have hs : i.size = 128 := by simpa [hq] using hi
    have hagg : (isAgg 78).run Try.prog w = .ok true w := by simp [isAgg, run_underlying Try.underlying78]
    simp [loadVar, hagg, hr, cellsB]

theorem run_load78 {a : Act} {w : World} {o : Oper} {x : Operand} {b : Nat} {ys : List Int} (h1 : a.eval x = .pointer (some ⟨b, 0, none⟩)) (ho : o.op = .load 78 x) (hx : ArrS w b 78 ys) (hl : ys.length = 128) : (execOp a.eval o).run Try.prog w = .ok (.value (.agg (cellsB ys))) w := by
  simp only [execOp, ho, h1, Instr.loadAt, Instr.sureAddr, Sem.run_bind, Sem.run_pure, Result.andThen_ok, load78 hx hl]
theorem Only.below {c g : Nat} {w w' : World} {B : Nat} (h : Only c g w w') (hc : B ≤ c) (hg : B ≤ g) : Below B w w' :=
  ⟨h.os, h.tape, h.output, by rw [h.size]; exact Nat.le_refl _, fun i hi => h.block i (by omega) (by omega)⟩
theorem below_setRow {B b : Nat} {w w' : World} (h : Below B w w') (hb : B ≤ b) (cs : Array Value) : Below B w (w'.setRow b cs) :=
  h.trans ⟨rfl, rfl, rfl, by simp, fun i hi => setRow_other _ _ _ _ (by omega)⟩
theorem results_cell {P : Program} {fn : Func} {tmps : Array Value} {a t : Nat} {ad : Addr} {w : World} {v : Value} (hf : fn.results = #[.cell a t]) (ha : tmps[a]?.getD undef = .pointer (some ad)) (hl : (loadVar t ad).run P w = .ok v w) : (results fn tmps).run P w = .ok v w := by
  unfold results
  rw [hf]
  simp [ha, asAddr, hl]
set_option maxHeartbeats 4000000 in
theorem head_sector (w : World) (life half first since : Int) : Calls Try.prog 46 #[.agg #[.int .i64 life, .int .i64 half, .int .i64 first, .int .i64 since]] w fun e w' => e = .returned (.agg (cellsB (headB life half first since))) ∧ Below w.heap.size w w' := by
  go_enter Try.func46, Try.ntmps46
  go_wp2_with fail
  rw [zero78]
  have hb0 : Below w.heap.size w ((((w.alloc (.cells #[.int .i64 life, .int .i64 half, .int .i64 first, .int .i64 since] 80)).alloc (.cells (cellsB (fillB [])) 78)).alloc (.cells (cellsB (fillB [])) 78)).alloc (.cells #[.slice (some ⟨w.heap.size + 1 + 1, 0, none⟩) 128 128] 120)) :=
    ((((Below.refl _ w).alloc (Nat.le_refl _) _).alloc (by simp) _).alloc (by simp; omega) _).alloc (by simp; omega) _
  obtain ⟨W, hW⟩ : ∃ W, ((((w.alloc (.cells #[.int .i64 life, .int .i64 half, .int .i64 first, .int .i64 since] 80)).alloc (.cells (cellsB (fillB [])) 78)).alloc (.cells (cellsB (fillB [])) 78)).alloc (.cells #[.slice (some ⟨w.heap.size + 1 + 1, 0, none⟩) 128 128] 120)) = W := ⟨_, rfl⟩
  have b0 : W.heap[w.heap.size]? = some (.cells #[.int .i64 life, .int .i64 half, .int .i64 first, .int .i64 since] 80 (0, 0)) := by
    rw [← hW]
    exact (Below.heap_alloc _ _ _ (by simp <;> omega)).trans ((Below.heap_alloc _ _ _ (by simp <;> omega)).trans ((Below.heap_alloc _ _ _ (by simp <;> omega)).trans (heap_alloc_new _ _)))
  have b1 : W.heap[w.heap.size + 1]? = some (.cells (cellsB (fillB [])) 78 (0, 0)) := by
    rw [← hW]
    exact (Below.heap_alloc _ _ _ (by simp <;> omega)).trans ((Below.heap_alloc _ _ _ (by simp <;> omega)).trans (by have := heap_alloc_new (w.alloc (.cells #[.int .i64 life, .int .i64 half, .int .i64 first, .int .i64 since] 80)) (.cells (cellsB (fillB [])) 78); simpa using this))
  have b2 : ArrS W (w.heap.size + 1 + 1) 78 (fillB []) := by
    rw [← hW]
    exact (Below.heap_alloc _ _ _ (by simp <;> omega)).trans (by have := heap_alloc_new ((w.alloc (.cells #[.int .i64 life, .int .i64 half, .int .i64 first, .int .i64 since] 80)).alloc (.cells (cellsB (fillB [])) 78)) (.cells (cellsB (fillB [])) 78); simpa using this)
  have b3 : Cur W (w.heap.size + 1 + 1 + 1) (w.heap.size + 1 + 1) 0 128 := by
    rw [← hW]
    have := heap_alloc_new (((w.alloc (.cells #[.int .i64 life, .int .i64 half, .int .i64 first, .int .i64 since] 80)).alloc (.cells (cellsB (fillB [])) 78)).alloc (.cells (cellsB (fillB [])) 78)) (.cells #[.slice (some ⟨w.heap.size + 1 + 1, 0, none⟩) 128 128] 120)
    simpa [Cur] using this
  rw [hW] at hb0 ⊢
  clear hW
  obtain ⟨hb, hhb⟩ : ∃ b, w.heap.size = b := ⟨_, rfl⟩
  obtain ⟨rb, hrb⟩ : ∃ b, w.heap.size + 1 = b := ⟨_, rfl⟩
  obtain ⟨sb, hsb⟩ : ∃ b, w.heap.size + 1 + 1 = b := ⟨_, rfl⟩
  obtain ⟨cb, hcb⟩ : ∃ b, w.heap.size + 1 + 1 + 1 = b := ⟨_, rfl⟩
  have n1 : hb ≠ sb ∧ hb ≠ cb ∧ rb ≠ sb ∧ rb ≠ cb ∧ cb ≠ sb ∧ hb ≠ rb := by omega
  have n2 : w.heap.size ≤ hb ∧ w.heap.size ≤ rb ∧ w.heap.size ≤ sb ∧ w.heap.size ≤ cb := by omega
  rw [hcb, hsb] at b3
  rw [hsb] at b2
  rw [hrb] at b1
  rw [hcb, hsb, hrb]
  rw [hhb] at b0
  have e0 : (Value.pointer (some ⟨w.heap.size, 0, none⟩)) = .pointer (some ⟨hb, 0, none⟩) := by rw [hhb]
  rw [e0]
  clear hcb hsb hrb e0
  refine (next_some b3 8 (by decide)).mono ?_
  rintro e W1 ⟨rfl, rfl⟩
  have C1 := b3.set sb (0 + 8) (128 - 8)
  have A1 : ArrS (W.setCell ⟨cb, 0, none⟩ (.slice (some ⟨sb, 0 + 8, none⟩) (128 - 8) (128 - 8))) sb 78 (fillB []) := (heap_setCell_other _ _ _ _ (by show sb ≠ cb; omega)).trans b2
  have O1 := Only.set cb sb W 0 (.slice (some ⟨sb, 0 + 8, none⟩) (128 - 8) (128 - 8))
  generalize W.setCell ⟨cb, 0, none⟩ (.slice (some ⟨sb, 0 + 8, none⟩) (128 - 8) (128 - 8)) = W1 at *
  have hcopy : (Builtin.copy_ #[38, 9] 3 #[.slice (some ⟨sb, 0, none⟩) 8 128, .string { data := #[76, 65, 80, 73, 68, 65, 82, 89] }]).run Try.prog W1 = .ok (.int .i64 8) (W1.setCells sb 0 (nameB.map (Value.int .u8))) :=
    run_copy_string (P := Try.prog) W1 38 9 3 5 sb 0 8 128 { data := #[76, 65, 80, 73, 68, 65, 82, 89] } Try.underlying38 (fun w => by simp [go_sem]) (by decide) (fun j hj => by
      have hj8 : j < 8 := hj
      rw [Nat.zero_add, A1.cell j (by rw [fillB_len (by decide)]; omega)]
      rfl) (fun j hj => by rw [Nat.zero_add]; exact A1.frozen j)
  have A2 := ArrS.setCells nameB 0 W1 _ A1 (by rw [fillB_len (by decide)]; decide)
  rw [lay_fill (A := []) (off := 0) rfl (by decide), List.nil_append] at A2
  have O2 := O1.trans (Only.cells cb sb (nameB.map (Value.int .u8)) 0 W1)
  have C2 : Cur (W1.setCells sb 0 (nameB.map (Value.int .u8))) cb sb 8 (128 - 8) := ((Only.cells sb sb (nameB.map (Value.int .u8)) 0 W1).block cb (by omega) (by omega)).trans C1
  have hd : ∀ W', Only cb sb W W' → W'.cell? ⟨hb, 0, none⟩ = some (.int .i64 life) ∧ W'.cell? ⟨hb, 1, none⟩ = some (.int .i64 half) ∧ W'.cell? ⟨hb, 2, none⟩ = some (.int .i64 first) ∧ W'.cell? ⟨hb, 3, none⟩ = some (.int .i64 since) := fun W' O => by
    have e := (O.block hb (by omega) (by omega)).trans b0
    refine ⟨?_, ?_, ?_, ?_⟩ <;> (rw [cell_of_row _ hb _ _ _ _ e]; rfl)
  clear C1 A1 O1
  obtain ⟨q0, q1, q2, q3⟩ := hd _ O2
  go_wp2_with fail
  clear hcopy q0 q1 q2 q3
  generalize W1.setCells sb 0 (nameB.map (Value.int .u8)) = W2 at *
  refine (putF (A := nameB) (off := 8) rfl C2 A2 6 (by decide) (by decide) life (by omega)).mono ?_
  rintro e W3 ⟨rfl, C3, A3, P3⟩
  have O3 := O2.trans P3
  clear C2 A2 P3 O2
  obtain ⟨q0, q1, q2, q3⟩ := hd _ O3
  go_wp2_with fail
  refine (putF (A := nameB ++ be 6 life) (off := 14) (by simp [nameB, be_len]) C3 A3 1 (by decide) (by decide) half (by omega)).mono ?_
  rintro e W4 ⟨rfl, C4, A4, P4⟩
  have O4 := O3.trans P4
  clear C3 A3 P4 O3 q0 q1 q2 q3
  obtain ⟨q0, q1, q2, q3⟩ := hd _ O4
  go_wp2_with fail
  refine (putF (A := nameB ++ be 6 life ++ be 1 half) (off := 15) (by simp [nameB, be_len]) C4 A4 6 (by decide) (by decide) first (by omega)).mono ?_
  rintro e W5 ⟨rfl, C5, A5, P5⟩
  have O5 := O4.trans P5
  clear C4 A4 P5 O4 q0 q1 q2 q3
  obtain ⟨q0, q1, q2, q3⟩ := hd _ O5
  go_wp2_with fail
  refine (putF (A := nameB ++ be 6 life ++ be 1 half ++ be 6 first) (off := 21) (by simp [nameB, be_len]) C5 A5 6 (by decide) (by decide) since (by omega)).mono ?_
  rintro e W6 ⟨rfl, C6, A6, P6⟩
  have O6 := O5.trans P6
  clear C5 A5 P6 O5 q0 q1 q2 q3
  have hH : nameB ++ be 6 life ++ be 1 half ++ be 6 first ++ be 6 since = head27 life half first since := rfl
  rw [hH] at A6
  obtain ⟨H, hHH⟩ : ∃ H, head27 life half first since = H := ⟨_, rfl⟩
  have hHl : H.length = 27 := by rw [← hHH]; exact head27_len _ _ _ _
  have hHb : ∀ x ∈ H, 0 ≤ x ∧ x < 256 := by rw [← hHH]; exact head27_byte _ _ _ _
  rw [hHH] at A6
  go_wp2_with fail
  refine (sum_some sb 0 27 128 H W6 hHl (by decide) hHb (fun i hi => ?_)).mono ?_
  · rw [Nat.zero_add, A6.cell i (by rw [fillB_len (by omega)]; omega)]
    unfold fillB
    rw [List.getD_eq_getElem?_getD, List.getElem?_append_left (by omega), ← List.getD_eq_getElem?_getD]
  rintro e W7 ⟨rfl, rfl⟩
  have hcrc : crc H < 4294967296 := by unfold crc; omega
  have hwc : IntKind.i64.wrap (crc H : Int) = (crc H : Int) := by rw [IntKind.wrap_i64]; omega
  go_wp2_with fail
  refine (putF (A := H) (off := 27) hHl C6 A6 4 (by decide) (by decide) (crc H : Int) (by omega)).mono ?_
  rintro e W7 ⟨rfl, C7, A7, P7⟩
  have O7 := O6.trans P7
  have hr7 := (O7.block rb (by omega) (by omega)).trans b1
  clear C6 A6 P7 O6
  have hXl : (fillB (H ++ be 4 (crc H : Int))).length = 128 := fillB_len (by rw [List.length_append, hHl, be_len]; decide)
  have hXX : headB life half first since = fillB (H ++ be 4 (crc H : Int)) := by unfold headB; rw [hHH]
  obtain ⟨X, hX⟩ : ∃ X, fillB (H ++ be 4 (crc H : Int)) = X := ⟨_, rfl⟩
  rw [hX] at hXl hXX A7
  have hsz1 : (Try.prog.info? 78).map (·.size) = some (cellsB X).size := by rw [cellsB_size, hXl]; kernel_rfl
  have hsz2 : (cellsB (fillB [])).size = (cellsB X).size := by rw [cellsB_size, cellsB_size, hXl, fillB_len (by decide)]
  have hone := cellsB_one X
  have hr8 : ArrS (W7.setRow rb (cellsB X)) rb 78 X := setRow_heap _ _ _ _ _ _ hr7
  have hl9 := load78 hr8 hXl
  have hB7 := below_setRow (hb0.trans (O7.below n2.2.2.2 n2.2.2.1)) n2.2.1 (cellsB X)
  go_wp2_with (first | (refine wpList_value rfl (run_load78 rfl rfl A7 hXl) ?_) | refine wpList_store_row rfl 78 _ _ rfl rb _ rfl rfl 78 _ hr7 hsz1 hsz2 hone ?_)
  rw [hXX]
  exact bodyPost_ret (v := .agg (cellsB X)) (results_cell Try.results46 rfl hl9) rfl ⟨rfl, hB7⟩
end Go.Proofs.Ytofgphiamllmdab
