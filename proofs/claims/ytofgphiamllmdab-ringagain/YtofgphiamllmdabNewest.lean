/- newest. -/
import Derived.Test.YtofgphiamllmdabReadH
import Derived.Test.YtofgphiamllmdabWrite
namespace Go.Proofs.Ytofgphiamllmdab
open Go.RowKit
set_option maxRecDepth 100000

/-- The newer one of two heads. -/
def newer : Option (Int × Int × Int × Int) → Option (Int × Int × Int × Int) → Option (Int × Int × Int × Int)
  | a, none => a
  | none, some h => some h
  | some g, some h => if g.1 < h.1 then some h else some g
theorem ArrS.bytes {w : World} {b ty : Nat} {xs : List Int} (h : ArrS w b ty xs) (hb : ∀ x ∈ xs, 0 ≤ x ∧ x < 256) : Bytes w b 0 xs := ⟨hb, fun i hi => by rw [Nat.zero_add]; exact h.cell i hi⟩
theorem load78_at {w : World} {b m : Nat} {xs : List Int} (hx : ArrS w b 5 xs) (hb : ∀ x ∈ xs, 0 ≤ x ∧ x < 256) (hl : xs.length = 128 * m) (k : Nat) (hk : k < m) : (loadVar 78 ⟨b, 128 * k, none⟩).run Try.prog w = .ok (.agg (cellsB (ch xs k))) w := by
  have hr := load_cells (hx.bytes hb) hl ⟨k, hk⟩
  simp only [Nat.zero_add] at hr
  have hagg : (isAgg 78).run Try.prog w = .ok true w := by simp [isAgg, run_underlying Try.underlying78]
  simp [loadVar, hagg, hr]
theorem run_load78_at {a : Act} {w : World} {o : Oper} {x : Operand} {b m k : Nat} {xs : List Int} (h1 : a.eval x = .pointer (some ⟨b, 128 * k, none⟩)) (ho : o.op = .load 78 x) (hx : ArrS w b 5 xs) (hb : ∀ x ∈ xs, 0 ≤ x ∧ x < 256) (hl : xs.length = 128 * m) (hk : k < m) : (execOp a.eval o).run Try.prog w = .ok (.value (.agg (cellsB (ch xs k)))) w := by
  simp only [execOp, ho, h1, Instr.loadAt, Instr.sureAddr, Sem.run_bind, Sem.run_pure, Result.andThen_ok, load78_at hx hb hl k hk]
theorem run_arr78 {a : Act} {w : World} {o : Oper} {x : Operand} {gb off n c : Nat} (h1 : a.eval x = .slice (some ⟨gb, off, none⟩) n c) (ho : o.op = .sliceToArrayPointer 78 x) (hn : 128 ≤ n) : (execOp a.eval o).run Try.prog w = .ok (.value (.pointer (some ⟨gb, off, none⟩))) w := by
  have hr : (Instr.arrayAt 78 (.slice (some ⟨gb, off, none⟩) n c)).run Try.prog w = .ok (.pointer (some ⟨gb, off, none⟩)) w := by
    have h2 : ¬ n < 128 := by omega
    simp [Instr.arrayAt, run_underlying Try.underlying78, h2]
  simp only [execOp, ho, h1, Sem.run_bind, hr, Result.andThen_ok]
  rfl

theorem hdV_form (a : Option (Int × Int × Int × Int)) : ∃ l h f s ok, hdV a = .tuple #[.agg #[.int .i64 l, .int .i64 h, .int .i64 f, .int .i64 s], .bool ok] ∧ (ok = true → a = some (l, h, f, s)) ∧ (ok = false → a = none ∧ l = 0 ∧ h = 0 ∧ f = 0 ∧ s = 0) := by
  rcases a with _ | ⟨l, h, f, s⟩
  · exact ⟨0, 0, 0, 0, false, rfl, (fun h => by cases h), fun _ => ⟨rfl, rfl, rfl, rfl, rfl⟩⟩
  · exact ⟨l, h, f, s, true, rfl, fun _ => rfl, (fun h => by cases h)⟩
set_option maxHeartbeats 4000000 in
theorem newest_any {w : World} {b m : Nat} {xs : List Int} (hx : ArrS w b 5 xs) (hb : ∀ x ∈ xs, 0 ≤ x ∧ x < 256) (hl : xs.length = 128 * m) (hm : 2 ≤ m) :
    Calls Try.prog 72 #[.slice (some ⟨b, 0, none⟩) (128 * m) (128 * m)] w fun e w' => e = .returned (hdV (newer (rdHead (ch xs 0)) (rdHead (ch xs 1)))) ∧ Below w.heap.size w w' := by
  have hS0 := ch_sec hl hb 0 (by omega)
  have hS1 := ch_sec hl hb 1 (by omega)
  have hB0 := box_below w (.cells #[.int .i64 0, .int .i64 0, .int .i64 0, .int .i64 0] 80)
  have hx0 : ArrS (w.alloc (.cells #[.int .i64 0, .int .i64 0, .int .i64 0, .int .i64 0] 80)) b 5 xs := (Below.heap_alloc _ _ _ (lt_of_block hx)).trans hx
  have hr0 := heap_alloc_new w (.cells #[.int .i64 0, .int .i64 0, .int .i64 0, .int .i64 0] 80)
  have hbl := lt_of_block hx
  go_enter Try.func72, Try.ntmps72
  go_wp2_with (first | (refine wpList_value rfl (run_arr78 rfl rfl (by omega)) ?_) | (refine wpList_value rfl (run_load78_at (k := 0) rfl rfl hx0 hb hl (by omega)) ?_) | fail)
  refine (readHead_any _ hS0).mono ?_
  rintro e W1 ⟨rfl, hb1⟩
  have hB1 := below_size hB0 (by simp) hb1
  have hx1 : ArrS W1 b 5 xs := (hb1.block _ (lt_of_block hx0)).trans hx0
  have r1 := (hb1.block _ (lt_of_block hr0)).trans hr0
  obtain ⟨l1, h1, f1, s1, ok1, e1, t1, t2⟩ := hdV_form (rdHead (ch xs 0))
  rw [e1]
  clear hb1 hB0 hx0 hr0 e1
  have hx2 : ArrS (W1.alloc (.cells #[.int .i64 l1, .int .i64 h1, .int .i64 f1, .int .i64 s1] 80)) b 5 xs := (Below.heap_alloc _ _ _ (lt_of_block hx1)).trans hx1
  have r2 : (W1.alloc (.cells #[.int .i64 l1, .int .i64 h1, .int .i64 f1, .int .i64 s1] 80)).heap[w.heap.size]? = _ := (Below.heap_alloc _ _ _ (lt_of_block r1)).trans r1
  have g2 := heap_alloc_new W1 (.cells #[.int .i64 l1, .int .i64 h1, .int .i64 f1, .int .i64 s1] 80)
  have hB2 := hB1.alloc hB1.size (.cells #[.int .i64 l1, .int .i64 h1, .int .i64 f1, .int .i64 s1] 80)
  have m1 : 128 ≤ 128 * m := by omega
  have m2 : ¬ 128 * m = 128 := by omega
  have m3 : (128 : Int) ≤ 128 * (m : Int) := by omega
  go_wp2_with (first | (refine wpList_value rfl (run_arr78 rfl rfl (by omega)) ?_) | (refine wpList_value rfl (run_load78_at (k := 1) rfl rfl hx2 hb hl (by omega)) ?_) | fail)
  generalize W1.alloc (.cells #[.int .i64 l1, .int .i64 h1, .int .i64 f1, .int .i64 s1] 80) = W2 at *
  generalize W1.heap.size = gb at *
  refine (readHead_any W2 hS1).mono ?_
  rintro e W3 ⟨rfl, hb3⟩
  have hB3 := below_size hB2 (Nat.le_refl _) hb3
  have r3 := (hb3.block _ (lt_of_block r2)).trans r2
  have g3 := (hb3.block _ (lt_of_block g2)).trans g2
  obtain ⟨l2, h2, f2, s2, ok2, e2, t3, t4⟩ := hdV_form (rdHead (ch xs 1))
  rw [e2]
  clear hb3 hB2 hx2 r2 g2 e2 hB1 hx1 r1 hx hb hl hS0 hS1
  have k4 := heap_alloc_new W3 (.cells #[.int .i64 l2, .int .i64 h2, .int .i64 f2, .int .i64 s2] 80)
  have r4 : (W3.alloc (.cells #[.int .i64 l2, .int .i64 h2, .int .i64 f2, .int .i64 s2] 80)).heap[w.heap.size]? = _ := (Below.heap_alloc _ _ _ (lt_of_block r3)).trans r3
  have g4 : (W3.alloc (.cells #[.int .i64 l2, .int .i64 h2, .int .i64 f2, .int .i64 s2] 80)).heap[gb]? = _ := (Below.heap_alloc _ _ _ (lt_of_block g3)).trans g3
  have hB4 := hB3.alloc hB3.size (.cells #[.int .i64 l2, .int .i64 h2, .int .i64 f2, .int .i64 s2] 80)
  clear r3 g3 hB3
  go_upto_region 3 with fail
  generalize W3.alloc (.cells #[.int .i64 l2, .int .i64 h2, .int .i64 f2, .int .i64 s2] 80) = W4 at *
  generalize W3.heap.size = nb at *
  have a0 : W4.cell? ⟨gb, 0, none⟩ = some (.int .i64 l1) := by rw [cell_of_row _ gb _ _ _ _ g4]; rfl
  have a1 : W4.cell? ⟨gb, 1, none⟩ = some (.int .i64 h1) := by rw [cell_of_row _ gb _ _ _ _ g4]; rfl
  have a2 : W4.cell? ⟨gb, 2, none⟩ = some (.int .i64 f1) := by rw [cell_of_row _ gb _ _ _ _ g4]; rfl
  have a3 : W4.cell? ⟨gb, 3, none⟩ = some (.int .i64 s1) := by rw [cell_of_row _ gb _ _ _ _ g4]; rfl
  have c0 : W4.cell? ⟨nb, 0, none⟩ = some (.int .i64 l2) := by rw [cell_of_row _ nb _ _ _ _ k4]; rfl
  have c1 : W4.cell? ⟨nb, 1, none⟩ = some (.int .i64 h2) := by rw [cell_of_row _ nb _ _ _ _ k4]; rfl
  have c2 : W4.cell? ⟨nb, 2, none⟩ = some (.int .i64 f2) := by rw [cell_of_row _ nb _ _ _ _ k4]; rfl
  have c3 : W4.cell? ⟨nb, 3, none⟩ = some (.int .i64 s2) := by rw [cell_of_row _ nb _ _ _ _ k4]; rfl
  clear g4 k4
  cases ok2
  · have hres : Hid (hdV (newer (rdHead (ch xs 0)) (rdHead (ch xs 1))) = .tuple #[.agg #[.int .i64 l1, .int .i64 h1, .int .i64 f1, .int .i64 s1], .bool ok1]) := by
      show _ = _
      rw [(t4 rfl).1]
      cases ok1
      · obtain ⟨e, rfl, rfl, rfl, rfl⟩ := t2 rfl
        rw [e]
        rfl
      · rw [t1 rfl]
        rfl
    clear t1 t2 t3 t4
    have z1 : (Try.prog.info? 80).map (·.size) = some (#[Value.int .i64 l1, .int .i64 h1, .int .i64 f1, .int .i64 s1] : Array Value).size := by kernel_rfl
    have z2 : (#[Value.int .i64 0, .int .i64 0, .int .i64 0, .int .i64 0] : Array Value).size = (#[Value.int .i64 l1, .int .i64 h1, .int .i64 f1, .int .i64 s1] : Array Value).size := rfl
    have z3 : (#[Value.int .i64 l1, .int .i64 h1, .int .i64 f1, .int .i64 s1] : Array Value).all (·.oneCell') = true := by simp [Value.oneCell']
    have r7 : (W4.setRow w.heap.size #[.int .i64 l1, .int .i64 h1, .int .i64 f1, .int .i64 s1]).heap[w.heap.size]? = _ := setRow_heap _ _ _ _ _ _ r4
    have hB7 := below_setRow hB4 (Nat.le_refl _) #[.int .i64 l1, .int .i64 h1, .int .i64 f1, .int .i64 s1]
    go_wp2_with (first | refine wpList_store_row rfl 80 _ _ rfl w.heap.size _ rfl rfl 80 _ r4 z1 z2 z3 ?_)
    exact bodyPost_ret (v := .tuple #[.agg #[.int .i64 l1, .int .i64 h1, .int .i64 f1, .int .i64 s1], .bool ok1]) (results_two Try.results72 rfl (load80 r7) rfl) rfl ⟨by rw [hres.out], hB7⟩
  · cases ok1
    · have hres : Hid (hdV (newer (rdHead (ch xs 0)) (rdHead (ch xs 1))) = .tuple #[.agg #[.int .i64 l2, .int .i64 h2, .int .i64 f2, .int .i64 s2], .bool true]) := by
        show _ = _
        rw [(t2 rfl).1, t3 rfl]
        rfl
      clear t1 t2 t3 t4
      have z1 : (Try.prog.info? 80).map (·.size) = some (#[Value.int .i64 l2, .int .i64 h2, .int .i64 f2, .int .i64 s2] : Array Value).size := by kernel_rfl
      have z2 : (#[Value.int .i64 0, .int .i64 0, .int .i64 0, .int .i64 0] : Array Value).size = (#[Value.int .i64 l2, .int .i64 h2, .int .i64 f2, .int .i64 s2] : Array Value).size := rfl
      have z3 : (#[Value.int .i64 l2, .int .i64 h2, .int .i64 f2, .int .i64 s2] : Array Value).all (·.oneCell') = true := by simp [Value.oneCell']
      have r7 : (W4.setRow w.heap.size #[.int .i64 l2, .int .i64 h2, .int .i64 f2, .int .i64 s2]).heap[w.heap.size]? = _ := setRow_heap _ _ _ _ _ _ r4
      have hB7 := below_setRow hB4 (Nat.le_refl _) #[.int .i64 l2, .int .i64 h2, .int .i64 f2, .int .i64 s2]
      go_wp2_with (first | refine wpList_store_row rfl 80 _ _ rfl w.heap.size _ rfl rfl 80 _ r4 z1 z2 z3 ?_)
      exact bodyPost_ret (v := .tuple #[.agg #[.int .i64 l2, .int .i64 h2, .int .i64 f2, .int .i64 s2], .bool true]) (results_two Try.results72 rfl (load80 r7) rfl) rfl ⟨by rw [hres.out], hB7⟩
    · by_cases hlt : l1 < l2
      · have hres : Hid (hdV (newer (rdHead (ch xs 0)) (rdHead (ch xs 1))) = .tuple #[.agg #[.int .i64 l2, .int .i64 h2, .int .i64 f2, .int .i64 s2], .bool true]) := by
          show _ = _
          rw [t1 rfl, t3 rfl]
          show hdV (if l1 < l2 then _ else _) = _
          rw [if_pos hlt]
          rfl
        clear t1 t2 t3 t4
        have z1 : (Try.prog.info? 80).map (·.size) = some (#[Value.int .i64 l2, .int .i64 h2, .int .i64 f2, .int .i64 s2] : Array Value).size := by kernel_rfl
        have z2 : (#[Value.int .i64 0, .int .i64 0, .int .i64 0, .int .i64 0] : Array Value).size = (#[Value.int .i64 l2, .int .i64 h2, .int .i64 f2, .int .i64 s2] : Array Value).size := rfl
        have z3 : (#[Value.int .i64 l2, .int .i64 h2, .int .i64 f2, .int .i64 s2] : Array Value).all (·.oneCell') = true := by simp [Value.oneCell']
        have r7 : (W4.setRow w.heap.size #[.int .i64 l2, .int .i64 h2, .int .i64 f2, .int .i64 s2]).heap[w.heap.size]? = _ := setRow_heap _ _ _ _ _ _ r4
        have hB7 := below_setRow hB4 (Nat.le_refl _) #[.int .i64 l2, .int .i64 h2, .int .i64 f2, .int .i64 s2]
        go_wp2_with (first | refine wpList_store_row rfl 80 _ _ rfl w.heap.size _ rfl rfl 80 _ r4 z1 z2 z3 ?_)
        exact bodyPost_ret (v := .tuple #[.agg #[.int .i64 l2, .int .i64 h2, .int .i64 f2, .int .i64 s2], .bool true]) (results_two Try.results72 rfl (load80 r7) rfl) rfl ⟨by rw [hres.out], hB7⟩
      · have hres : Hid (hdV (newer (rdHead (ch xs 0)) (rdHead (ch xs 1))) = .tuple #[.agg #[.int .i64 l1, .int .i64 h1, .int .i64 f1, .int .i64 s1], .bool true]) := by
          show _ = _
          rw [t1 rfl, t3 rfl]
          show hdV (if l1 < l2 then _ else _) = _
          rw [if_neg hlt]
          rfl
        clear t1 t2 t3 t4
        have z1 : (Try.prog.info? 80).map (·.size) = some (#[Value.int .i64 l1, .int .i64 h1, .int .i64 f1, .int .i64 s1] : Array Value).size := by kernel_rfl
        have z2 : (#[Value.int .i64 0, .int .i64 0, .int .i64 0, .int .i64 0] : Array Value).size = (#[Value.int .i64 l1, .int .i64 h1, .int .i64 f1, .int .i64 s1] : Array Value).size := rfl
        have z3 : (#[Value.int .i64 l1, .int .i64 h1, .int .i64 f1, .int .i64 s1] : Array Value).all (·.oneCell') = true := by simp [Value.oneCell']
        have r7 : (W4.setRow w.heap.size #[.int .i64 l1, .int .i64 h1, .int .i64 f1, .int .i64 s1]).heap[w.heap.size]? = _ := setRow_heap _ _ _ _ _ _ r4
        have hB7 := below_setRow hB4 (Nat.le_refl _) #[.int .i64 l1, .int .i64 h1, .int .i64 f1, .int .i64 s1]
        go_wp2_with (first | refine wpList_store_row rfl 80 _ _ rfl w.heap.size _ rfl rfl 80 _ r4 z1 z2 z3 ?_)
        exact bodyPost_ret (v := .tuple #[.agg #[.int .i64 l1, .int .i64 h1, .int .i64 f1, .int .i64 s1], .bool true]) (results_two Try.results72 rfl (load80 r7) rfl) rfl ⟨by rw [hres.out], hB7⟩
end Go.Proofs.Ytofgphiamllmdab
