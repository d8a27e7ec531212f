/- readRecord. -/
import Derived.Test.YtofgphiamllmdabReadP
import Derived.Test.YtofgphiamllmdabNewest
import Derived.Test.YtofgphiamllmdabSmall
import Derived.Test.YtofgphiamllmdabLogW
import Derived.Laws.AppendOwn
namespace Go.Proofs.Ytofgphiamllmdab
open Go.RowKit
set_option maxRecDepth 100000

/-- What readRecord answers, from the sector j on: life and bytes. -/
def rdRec (g : Nat → List Int) (seq : Int) : Nat → Nat → Int → List Int → Option (Int × List Int)
  | 0, _, _, _ => none
  | r + 1, j, life, acc => match rdPiece (g j) with
    | none => none
    | some (l, q, p, last, n) =>
      if q ≠ seq ∨ p ≠ (j : Int) ∨ (0 < j ∧ l ≠ life) then none
      else if 60000 < (acc ++ ((g j).drop 16).take n).length then none
      else if last = true then some (l, acc ++ ((g j).drop 16).take n)
      else rdRec g seq r (j + 1) l (acc ++ ((g j).drop 16).take n)
theorem load91 {w : World} {b : Nat} {v0 v1 v2 : Value} (hx : w.heap[b]? = some (.cells #[v0, v1, v2] 91 (0, 0))) : (loadVar 91 ⟨b, 0, none⟩).run Try.prog w = .ok (.agg #[v0, v1, v2]) w := by
  have hr := run_loadCells_list (P := Try.prog) w ⟨b, 0, none⟩ [v0, v1, v2] (fun i v hi => by
    have hadd : (⟨b, 0, none⟩ : Addr).add i = ⟨b, i, none⟩ := by unfold Addr.add; split <;> simp_all
    rw [hadd, cell_of_row w b i _ _ _ hx]
    simpa using hi)
  have hagg : (isAgg 91).run Try.prog w = .ok true w := by simp [isAgg, run_underlying Try.underlying91]
  have hr' : (loadCells ⟨b, 0, none⟩ 3).run Try.prog w = .ok #[v0, v1, v2] w := hr
  simp [loadVar, hagg, hr']
theorem run_load91 {a : Act} {w : World} {o : Oper} {x : Operand} {b : Nat} {v0 v1 v2 : Value} (h1 : a.eval x = .pointer (some ⟨b, 0, none⟩)) (ho : o.op = .load 91 x) (hx : w.heap[b]? = some (.cells #[v0, v1, v2] 91 (0, 0))) : (execOp a.eval o).run Try.prog w = .ok (.value (.agg #[v0, v1, v2])) w := by
  simp only [execOp, ho, h1, Instr.loadAt, Instr.sureAddr, Sem.run_bind, Sem.run_pure, Result.andThen_ok, load91 hx]
def recO (life seq : Int) (v : Value) : Obj := .cells #[.int .i64 life, .int .i64 seq, v] 91 (0, 0)
def rcV (seq : Int) (v : Value) : Option (Int × List Int) → Value
  | some (life, _) => .tuple #[.agg #[.int .i64 life, .int .i64 seq, v], .bool true]
  | none => .tuple #[.agg #[.int .i64 0, .int .i64 0, .slice none 0 0], .bool false]
theorem pcV_form (xb : Nat) (a : Option (Int × Int × Int × Bool × Nat)) : ∃ l q pl last va vn vc ok, pcV xb a = .tuple #[.agg #[.int .i64 l, .int .i64 q, .int .i64 pl, .bool last, .slice va vn vc], .bool ok] ∧ (ok = true → a = some (l, q, pl, last, vn) ∧ va = some ⟨xb, 16, none⟩ ∧ vc = 112) ∧ (ok = false → a = none) := by
  rcases a with _ | ⟨l, q, pl, last, n⟩
  · exact ⟨0, 0, 0, false, none, 0, 0, false, rfl, (fun h => by cases h), fun _ => rfl⟩
  · exact ⟨l, q, pl, last, _, n, _, true, rfl, fun _ => ⟨rfl, rfl, rfl⟩, (fun h => by cases h)⟩
theorem rdPiece_len {xs : List Int} {l q pl : Int} {last : Bool} {n : Nat} (h : rdPiece xs = some (l, q, pl, last, n)) : 1 ≤ n ∧ n ≤ 112 ∧ (last = false → n = 112) := by
  unfold rdPiece at h
  split at h
  · rename_i hc
    simp only [Option.some.injEq, Prod.mk.injEq] at h
    obtain ⟨_, _, _, h4, h5⟩ := h
    rw [h4, h5] at hc
    have hb := hc.1
    unfold badB at hb
    simp only [Bool.or_eq_false_iff, decide_eq_false_iff_not, Bool.and_eq_false_iff, Bool.not_eq_false'] at hb
    obtain ⟨h1, h2, h3⟩ := hb
    refine ⟨by omega, by omega, fun e => ?_⟩
    rcases h3 with h3 | h3
    · rw [h3] at e; cases e
    · omega
  · cases h
/-- Whether a piece is none of the record's. -/
def badR (ok : Bool) (q seq pl j l life : Int) : Bool := !ok || (decide (q ≠ seq) || (decide (pl ≠ j) || (decide (0 < j) && decide (l ≠ life))))
theorem badR_pos {q seq pl l life : Int} {j : Nat} (e1 : q = seq) (e2 : pl = (j : Int)) (h : 0 < j) : Value.bool (l != life) = .bool (badR true q seq pl (j : Int) l life) := by
  have h' : (0 : Int) < (j : Int) := by omega
  by_cases e : l = life <;> simp [badR, e1, e2, h, e]
theorem badR_neg {q seq pl l life : Int} {j : Nat} (e1 : q = seq) (e2 : pl = (j : Int)) (h : ¬ 0 < j) : Value.bool false = .bool (badR true q seq pl (j : Int) l life) := by
  have h' : j = 0 := by omega
  simp [badR, e1, e2, h']
theorem rec_set0 {w : World} {b : Nat} {life seq : Int} {v : Value} (h : w.heap[b]? = some (recO life seq v)) (l : Int) : (w.setCell ⟨b, 0, none⟩ (.int .i64 l)).heap[b]? = some (recO l seq v) := by
  unfold recO at h ⊢
  rw [heap_setCell_same w b 0 _ _ _ h]
  simp
theorem rec_set2 {w : World} {b : Nat} {life seq : Int} {v : Value} (h : w.heap[b]? = some (recO life seq v)) (v' : Value) : (w.setCell ⟨b, 2, none⟩ v').heap[b]? = some (recO life seq v') := by
  unfold recO at h ⊢
  rw [heap_setCell_same w b 2 _ _ _ h]
  simp
theorem own_ne {w : World} {n₀ e sz n b t : Nat} {v : Value} {xs : List Value} {c : Array Value} (h : w.ownsRow n₀ e sz v n xs) (hb : w.heap[b]? = some (.cells c t (0, 0))) (ht : t ≠ e) : v.ownBlock ≠ some b := by
  intro hv
  obtain ⟨_, cur, hh⟩ := own_block h hv
  rw [hh] at hb
  exact ht (cells_ty hb).symm
theorem own_setCell {w : World} {n₀ e sz n b t i : Nat} {v x : Value} {xs : List Value} {c : Array Value} (h : w.ownsRow n₀ e sz v n xs) (hb : w.heap[b]? = some (.cells c t (0, 0))) (ht : t ≠ e) : (w.setCell ⟨b, i, none⟩ x).ownsRow n₀ e sz v n xs :=
  own_same h (fun g hg => heap_setCell_other _ _ _ _ (fun e' => own_ne h hb ht (by rw [hg, e'])))
theorem below_setCell {B b i : Nat} {w w' : World} {x : Value} (h : Below B w w') (hb : B ≤ b) : Below B w (w'.setCell ⟨b, i, none⟩ x) :=
  ⟨h.os, h.tape, h.output, by simpa using h.size, fun j hj => (heap_setCell_other _ _ _ _ (by show j ≠ b; omega)).trans (h.block j hj)⟩
theorem own_mono {w : World} {n₀ n₁ e sz n : Nat} {v : Value} {xs : List Value} (h : w.ownsRow n₀ e sz v n xs) (hn : n₁ ≤ n₀) : w.ownsRow n₁ e sz v n xs := by
  obtain ⟨h1, h2⟩ := h
  refine ⟨h1, ?_⟩
  rcases h2 with ⟨rfl, h3⟩ | ⟨g', cap, cur, rfl, hb, h4⟩
  · exact .inl ⟨rfl, h3⟩
  · exact .inr ⟨g', cap, cur, rfl, Nat.le_trans hn hb, h4⟩
theorem own_pos {w : World} {n₀ e sz n : Nat} {v : Value} {xs : List Value} (h : w.ownsRow n₀ e sz v n xs) (hn : 0 < n) : ∃ g cap, v = .slice (some ⟨g, 0, none⟩) n cap := by
  rcases h.2 with ⟨rfl, h2⟩ | ⟨g, cap, cur, rfl, _⟩
  · omega
  · exact ⟨g, cap, rfl⟩
theorem below_grown {B n₀ e sz n : Nat} {w w' w'' : World} {v : Value} {xs : List Value} (h : Below B w w') (O : w'.ownsRow n₀ e sz v n xs) (hB : B ≤ n₀) (hw : B ≤ w.heap.size) (G : w'.grownBy w'' v.ownBlock) : Below B w w'' :=
  ⟨G.os.trans h.os, G.tape.trans h.tape, G.output.trans h.output, Nat.le_trans h.size G.size, fun i hi => (G.block i (by have := h.size; omega) (fun e => by obtain ⟨hb, _⟩ := own_block O e.symm; omega)).trans (h.block i hi)⟩
set_option maxHeartbeats 4000000 in
theorem readRecord_any {w : World} {gb u m M cap : Nat} {a0 : Option Addr} {xs : List Int} (hx : ArrS w gb 5 xs) (hb : ∀ x ∈ xs, 0 ≤ x ∧ x < 256) (hl : xs.length = 128 * M) (hum : u + m ≤ M) (hM : M ≤ 100000) (hcap : 128 * m ≤ cap) (ha0 : 0 < m → a0 = some ⟨gb, 128 * u, none⟩) (seq : Int) :
    Calls Try.prog 88 #[.slice a0 (128 * m) cap, .int .i64 seq] w fun e w' => ∃ v, e = .returned (rcV seq v (rdRec (fun k => ch xs (u + k)) seq m 0 0 [])) ∧ Below w.heap.size w w' ∧ ∀ l ys, rdRec (fun k => ch xs (u + k)) seq m 0 0 [] = some (l, ys) → w'.ownsRow w.heap.size 5 1 v ys.length (ys.map (Value.int .u8)) := by
  go_enter Try.func88, Try.ntmps88
  go_upto_region 1 with fail
  have A0 := heap_alloc_new w (.cells #[.int .i64 0, .int .i64 0, .slice none 0 0] 91)
  have B0 := box_below w (.cells #[.int .i64 0, .int .i64 0, .slice none 0 0] 91)
  generalize w.alloc (.cells #[.int .i64 0, .int .i64 0, .slice none 0 0] 91) = w1 at *
  have A1 := heap_alloc_new w1 (.cells #[.int .i64 0, .int .i64 0, .slice none 0 0] 91)
  have z1 : (Try.prog.info? 91).map (·.size) = some (#[Value.int .i64 0, .int .i64 seq, .slice none 0 0] : Array Value).size := by kernel_rfl
  have z2 : (#[Value.int .i64 0, .int .i64 0, .slice none 0 0] : Array Value).size = (#[Value.int .i64 0, .int .i64 seq, .slice none 0 0] : Array Value).size := rfl
  have z3 : (#[Value.int .i64 0, .int .i64 seq, .slice none 0 0] : Array Value).all (·.oneCell') = true := by simp [Value.oneCell']
  have A2 : ((w1.alloc (.cells #[.int .i64 0, .int .i64 0, .slice none 0 0] 91)).setRow w1.heap.size #[.int .i64 0, .int .i64 seq, .slice none 0 0]).heap[w1.heap.size]? = some (recO 0 seq (.slice none 0 0)) := setRow_heap _ _ _ _ _ _ A1
  have B2 : Below w1.heap.size w1 ((w1.alloc (.cells #[.int .i64 0, .int .i64 0, .slice none 0 0] 91)).setRow w1.heap.size #[.int .i64 0, .int .i64 seq, .slice none 0 0]) := below_setRow (box_below w1 _) (Nat.le_refl _) _
  go_wp2_with (first | refine wpList_store_row rfl 91 _ _ rfl w1.heap.size _ rfl rfl 91 _ A1 z1 z2 z3 ?_)
  generalize (w1.alloc (.cells #[.int .i64 0, .int .i64 0, .slice none 0 0] 91)).setRow w1.heap.size #[.int .i64 0, .int .i64 seq, .slice none 0 0] = w2 at *
  have Q2 : w2.heap[w.heap.size]? = some (recO 0 0 (.slice none 0 0)) := (B2.block _ (lt_of_block A0)).trans A0
  have B3 : Below w.heap.size w w2 := below_size B0 (Nat.le_refl _) B2
  have hne : w.heap.size < w1.heap.size := lt_of_block A0
  have hgb := lt_of_block hx
  clear A0 B0 A1 z1 z2 z3 B2
  generalize w1.heap.size = rb at *
  obtain ⟨qb, hqb⟩ : ∃ q, w.heap.size = q := ⟨_, rfl⟩
  have hq1 : qb ≤ w.heap.size := by omega
  have hq2 : w.heap.size ≤ qb := by omega
  rw [hqb] at Q2 B3 hgb hne ⊢
  clear hqb
  go_loopw [0, 7] (fun v i wr => ∃ (j : Nat) (a : Option Addr) (life : Int) (acc : List Int) (av : Value), j ≤ m ∧ i = .int .i64 (j : Int) ∧ v = .slice a (128 * (m - j)) (cap - 128 * j) ∧ (j < m → a = some ⟨gb, 128 * (u + j), none⟩) ∧ wr.heap[rb]? = some (recO life seq av) ∧ wr.heap[qb]? = some (recO 0 0 (.slice none 0 0)) ∧ wr.ownsRow qb 5 1 av acc.length (acc.map (Value.int .u8)) ∧ Below qb w wr ∧ acc.length ≤ 60000 ∧ rdRec (fun k => ch xs (u + k)) seq m 0 0 [] = rdRec (fun k => ch xs (u + k)) seq (m - j) j life acc) (fun _ i _ => m - (intOf i).toNat)
  case atStart => exact ⟨0, a0, 0, [], .slice none 0 0, by omega, rfl, by simp, fun h => by simpa using ha0 h, A2, Q2, World.ownsRow_nil _ _ _ _, B3, by simp, by simp⟩
  case round =>
    obtain ⟨j, a, life, acc, av, hj, rfl, rfl, ha, R, Q, O, B, hal, hrd⟩ := hrel
    clear A2 Q2 B3
    have y1 : (Try.prog.info? 91).map (·.size) = some (#[Value.int .i64 0, .int .i64 0, .slice none 0 0] : Array Value).size := by kernel_rfl
    have y2 : (#[Value.int .i64 0, .int .i64 0, .slice none 0 0] : Array Value).size = (#[Value.int .i64 0, .int .i64 0, .slice none 0 0] : Array Value).size := rfl
    have y3 : (#[Value.int .i64 0, .int .i64 0, .slice none 0 0] : Array Value).all (·.oneCell') = true := by simp [Value.oneCell']
    by_cases hjm : j = m
    · subst hjm
      have Q9 : (wr.setRow qb #[.int .i64 0, .int .i64 0, .slice none 0 0]).heap[qb]? = some (recO 0 0 (.slice none 0 0)) := setRow_heap _ _ _ _ _ _ Q
      have B9 := below_setRow B (Nat.le_refl _) #[.int .i64 0, .int .i64 0, .slice none 0 0] (b := qb)
      rw [Nat.sub_self] at hrd ⊢
      have hnone : Hid (rdRec (fun k => ch xs (u + k)) seq j 0 0 [] = none) := by rw [hrd]; rfl
      clear hrd
      go_wp2_with (first | refine wpList_store_row rfl 91 _ _ rfl qb _ rfl rfl 91 _ Q y1 y2 y3 ?_)
      exact bodyPost_ret (v := .tuple #[.agg #[.int .i64 0, .int .i64 0, .slice none 0 0], .bool false]) (results_two Try.results88 rfl (load91 Q9) rfl) rfl ⟨.slice none 0 0, by rw [hnone.out]; rfl, B9.mono hq2, by rw [hnone.out]; intro l ys h; cases h⟩
    · obtain ⟨r, hr⟩ : ∃ r, Hid (m - j = r + 1) := ⟨m - j - 1, by show _ = _; omega⟩
      rw [hr.out] at hrd
      obtain rfl := ha (by omega)
      obtain ⟨n, hn⟩ : ∃ n, Hid (128 * (m - j) = n) := ⟨_, rfl⟩
      obtain ⟨C, hC⟩ : ∃ C, Hid (cap - 128 * j = C) := ⟨_, rfl⟩
      have n1 : 128 ≤ n := by have := hn.out; omega
      have n2 : (128 : Int) ≤ (n : Int) := by omega
      have n3 : n ≤ C := by have := hn.out; have := hC.out; omega
      rw [hn.out, hC.out]
      have hS := ch_sec hl hb (u + j) (by omega)
      have hx1 : ArrS wr gb 5 xs := (B.block _ (by omega)).trans hx
      go_wp2_with (first | (refine wpList_value rfl (run_arr78 rfl rfl n1) ?_) | (refine wpList_value rfl (run_load78_at (k := u + j) rfl rfl hx1 hb hl (by omega)) ?_) | fail)
      refine (readPiece_any wr hS).mono ?_
      rintro e w3 ⟨xb, rfl, hxb, X3, B3⟩
      have B4 := below_size B hq1 B3
      have R3 := (B3.block rb (lt_of_block R)).trans R
      have Q3 := (B3.block qb (lt_of_block Q)).trans Q
      have O3 := own_same O (fun g hg => B3.block g (by obtain ⟨_, cur, hh⟩ := own_block O hg; exact lt_of_block hh))
      obtain ⟨l, q, pl, last, va, vn, vc, ok, ep, t1, t2⟩ := pcV_form xb (rdPiece (ch xs (u + j)))
      rw [ep]
      clear ep
      have P4 := heap_alloc_new w3 (.cells #[.int .i64 l, .int .i64 q, .int .i64 pl, .bool last, .slice va vn vc] 131)
      have Q4 : (w3.alloc (.cells #[.int .i64 l, .int .i64 q, .int .i64 pl, .bool last, .slice va vn vc] 131)).heap[qb]? = _ := (Below.heap_alloc _ _ _ (lt_of_block Q3)).trans Q3
      have R4 : (w3.alloc (.cells #[.int .i64 l, .int .i64 q, .int .i64 pl, .bool last, .slice va vn vc] 131)).heap[rb]? = _ := (Below.heap_alloc _ _ _ (lt_of_block R3)).trans R3
      have X4 : ArrS (w3.alloc (.cells #[.int .i64 l, .int .i64 q, .int .i64 pl, .bool last, .slice va vn vc] 131)) xb 78 (ch xs (u + j)) := (Below.heap_alloc _ _ _ (lt_of_block X3)).trans X3
      have B5 := B4.alloc (Nat.le_trans hq1 B4.size) (.cells #[.int .i64 l, .int .i64 q, .int .i64 pl, .bool last, .slice va vn vc] 131)
      have O4 : (w3.alloc (.cells #[.int .i64 l, .int .i64 q, .int .i64 pl, .bool last, .slice va vn vc] 131)).ownsRow qb 5 1 av acc.length (acc.map (Value.int .u8)) := own_same O3 (fun g hg => Below.heap_alloc _ _ _ (by obtain ⟨_, cur, hh⟩ := own_block O3 hg; exact lt_of_block hh))
      go_upto_region 6 with fail
      generalize w3.alloc (.cells #[.int .i64 l, .int .i64 q, .int .i64 pl, .bool last, .slice va vn vc] 131) = W at *
      have hpb := lt_of_block P4
      have hpq : qb < w3.heap.size := lt_of_block Q3
      have hpr : rb < w3.heap.size := lt_of_block R3
      generalize w3.heap.size = pb at *
      clear Q3 R3 X3 B4 O3 B3
      have c0 : W.cell? ⟨pb, 0, none⟩ = some (.int .i64 l) := by rw [cell_of_row _ pb _ _ _ _ P4]; rfl
      have c1 : W.cell? ⟨pb, 1, none⟩ = some (.int .i64 q) := by rw [cell_of_row _ pb _ _ _ _ P4]; rfl
      have c2 : W.cell? ⟨pb, 2, none⟩ = some (.int .i64 pl) := by rw [cell_of_row _ pb _ _ _ _ P4]; rfl
      have c3 : W.cell? ⟨pb, 3, none⟩ = some (.bool last) := by rw [cell_of_row _ pb _ _ _ _ P4]; rfl
      have c4 : W.cell? ⟨pb, 4, none⟩ = some (.slice va vn vc) := by rw [cell_of_row _ pb _ _ _ _ P4]; rfl
      have d0 : W.cell? ⟨rb, 0, none⟩ = some (.int .i64 life) := by rw [cell_of_row _ rb _ _ _ _ R4]; rfl
      go_cut [48] from 12 to 68 (fun v wx => v = .bool (badR ok q seq pl (j : Int) l life) ∧ wx = W)
      case first =>
        cases ok
        · go_wp2
          go_meet
          case rel => exact ⟨by simp [badR], rfl⟩
        · by_cases e1 : q = seq
          · by_cases e2 : pl = (j : Int)
            · by_cases e3 : (0 : Int) < (j : Int)
              · go_wp2
                go_meet
                case rel => exact ⟨badR_pos e1 e2 (by omega), rfl⟩
              · go_wp2
                go_meet
                case rel => exact ⟨badR_neg e1 e2 (by omega), rfl⟩
            · go_wp2
              go_meet
              case rel => exact ⟨by simp [badR, e1, e2], rfl⟩
          · go_wp2
            go_meet
            case rel => exact ⟨by simp [badR, e1], rfl⟩
      case rest =>
        obtain ⟨rfl, rfl⟩ := hcut
        cases hbd : badR ok q seq pl (j : Int) l life
        · have hok : ok = true := by cases ok; · simp [badR] at hbd
                                     · rfl
          subst hok
          obtain ⟨hp, rfl, rfl⟩ := t1 rfl
          clear t1 t2
          obtain ⟨k1, k2, k3⟩ := rdPiece_len hp
          have f0 : wc.frozen? ⟨rb, 0, none⟩ = false := frozen_of_row wc rb 0 _ _ R4
          have R5 := rec_set0 R4 l
          have P5 : (wc.setCell ⟨rb, 0, none⟩ (.int .i64 l)).heap[pb]? = _ := (heap_setCell_other _ _ _ _ (by show pb ≠ rb; omega)).trans P4
          have Q5 : (wc.setCell ⟨rb, 0, none⟩ (.int .i64 l)).heap[qb]? = _ := (heap_setCell_other _ _ _ _ (by show qb ≠ rb; omega)).trans Q4
          have X5 : ArrS (wc.setCell ⟨rb, 0, none⟩ (.int .i64 l)) xb 78 (ch xs (u + j)) := (heap_setCell_other _ _ _ _ (by
            rintro rfl
            unfold ArrS at X4
            rw [R4] at X4
            exact absurd (cells_ty X4) (by decide))).trans X4
          have B6 := below_setCell B5 (b := rb) (i := 0) (x := .int .i64 l) (by omega)
          have O5 := own_setCell O4 R4 (by decide) (i := 0) (x := .int .i64 l)
          go_upto_region 9 with fail
          generalize wc.setCell ⟨rb, 0, none⟩ (.int .i64 l) = W5 at *
          have hlen : (((ch xs (u + j)).drop 16).take vn).length = vn := by rw [List.length_take, List.length_drop, hS.len]; omega
          have hrd2 : Hid (rdRec (fun k => ch xs (u + k)) seq m 0 0 [] = if 60000 < (acc ++ ((ch xs (u + j)).drop 16).take vn).length then none else if last = true then some (l, acc ++ ((ch xs (u + j)).drop 16).take vn) else rdRec (fun k => ch xs (u + k)) seq r (j + 1) l (acc ++ ((ch xs (u + j)).drop 16).take vn)) := by
            show _ = _
            rw [hrd]
            conv => lhs; unfold rdRec
            simp only [hp]
            rw [if_neg]
            simp only [badR, Bool.not_true, Bool.false_or, Bool.or_eq_false_iff, decide_eq_false_iff_not, Bool.and_eq_false_iff, Decidable.not_not] at hbd
            obtain ⟨b1, b2, b3⟩ := hbd
            rintro (h | h | ⟨h1, h2⟩)
            · exact h b1
            · exact h b2
            · rcases b3 with b3 | b3
              · omega
              · exact h2 b3
          have hcell : ∀ i v, ((((ch xs (u + j)).drop 16).take vn).map (Value.int .u8))[i]? = some v → W5.cell? ((⟨xb, 16, none⟩ : Addr).add i) = some v := by
            intro i v hv
            have hi : i < vn := by
              have := (List.getElem?_eq_some_iff.1 hv).1
              rw [List.length_map, hlen] at this
              exact this
            have hadd : (⟨xb, 16, none⟩ : Addr).add i = ⟨xb, 16 + i, none⟩ := by unfold Addr.add; split <;> simp_all
            rw [hadd, X5.cell (16 + i) (by rw [hS.len]; omega)]
            rw [List.getElem?_map, List.getElem?_take_of_lt hi, List.getElem?_drop] at hv
            rw [List.getD_eq_getElem?_getD]
            have h9 : 16 + i < (ch xs (u + j)).length := by rw [hS.len]; omega
            rw [List.getElem?_eq_getElem h9] at hv ⊢
            simpa using hv
          have hby : ∀ x ∈ ((ch xs (u + j)).drop 16).take vn, 0 ≤ x ∧ x < 256 := fun x hx => hS.byte x (List.mem_of_mem_drop (List.mem_of_mem_take hx))
          generalize ((ch xs (u + j)).drop 16).take vn = ys at *
          clear hrd hp hbd P4 Q4 R4 X4 B5 O4 c0 c1 c2 c3 c4 d0 f0
          have c3 : W5.cell? ⟨pb, 3, none⟩ = some (.bool last) := by rw [cell_of_row _ pb _ _ _ _ P5]; rfl
          have c4 : W5.cell? ⟨pb, 4, none⟩ = some (.slice (some ⟨xb, 16, none⟩) vn 112) := by rw [cell_of_row _ pb _ _ _ _ P5]; rfl
          have d2 : W5.cell? ⟨rb, 2, none⟩ = some av := by rw [cell_of_row _ rb _ _ _ _ R5]; rfl
          obtain ⟨i0, hi, hz0, hz1, hz2⟩ := info_parts Try.info5
          have s5 := B6.size
          go_upto_region 10 with (at_builtin; refine wpList_append_own _ rfl _ _ 38 rfl qb 5 i0 (.int .u8 0) 1 1 Try.underlying38 hi hz0 hz1 hz2 rfl (by decide) _ _ _ rfl O5 ⟨xb, 16, none⟩ vn 112 (ys.map (Value.int .u8)) rfl (by rw [List.length_map, hlen, Nat.mul_one]) hcell (by intro v hv; obtain ⟨x, _, rfl⟩ := List.mem_map.1 hv; rfl) (by unfold maxLen; omega) (by omega) (by omega) ?_; intro v' w6 O6 G6 _; obtain ⟨g', cap', rfl⟩ := own_pos O6 (by omega); have R6 := (G6.block rb (lt_of_block R5) (fun e => own_ne O5 R5 (by decide) e.symm)).trans R5; have f2 : w6.frozen? ⟨rb, 2, none⟩ = false := frozen_of_row w6 rb 2 _ _ R6; have d3 : w6.cell? ⟨rb, 2, none⟩ = some av := by rw [cell_of_row _ rb _ _ _ _ R6]; rfl)
          have P6 := (G6.block pb (lt_of_block P5) (fun e => own_ne O5 P5 (by decide) e.symm)).trans P5
          have Q6 := (G6.block qb (lt_of_block Q5) (fun e => own_ne O5 Q5 (by decide) e.symm)).trans Q5
          have B7 := below_grown B6 O5 (Nat.le_refl _) hq1 G6
          obtain ⟨N, hN⟩ : ∃ N, Hid (acc.length + vn = N) := ⟨_, rfl⟩
          have hN2 : Hid ((acc ++ ys).length = N) := by show _ = _; rw [List.length_append, hlen, hN.out]
          rw [← List.map_append, hN.out] at O6
          rw [hN.out]
          have R7 := rec_set2 R6 (.slice (some ⟨g', 0, none⟩) N cap')
          have P7 : (w6.setCell ⟨rb, 2, none⟩ (.slice (some ⟨g', 0, none⟩) N cap')).heap[pb]? = _ := (heap_setCell_other _ _ _ _ (by show pb ≠ rb; omega)).trans P6
          have Q7 : (w6.setCell ⟨rb, 2, none⟩ (.slice (some ⟨g', 0, none⟩) N cap')).heap[qb]? = _ := (heap_setCell_other _ _ _ _ (by show qb ≠ rb; omega)).trans Q6
          have B8 := below_setCell B7 (b := rb) (i := 2) (x := .slice (some ⟨g', 0, none⟩) N cap') (by omega)
          have O7 := own_setCell O6 R6 (by decide) (i := 2) (x := .slice (some ⟨g', 0, none⟩) N cap')
          generalize w6.setCell ⟨rb, 2, none⟩ (.slice (some ⟨g', 0, none⟩) N cap') = W7 at *
          clear R6 P6 Q6 B7 O6 G6 f2 d3 c3 c4 d2 R5 P5 Q5 X5 B6 O5 hcell s5 hi hz0 hz1 hz2
          have c3 : W7.cell? ⟨pb, 3, none⟩ = some (.bool last) := by rw [cell_of_row _ pb _ _ _ _ P7]; rfl
          have d2 : W7.cell? ⟨rb, 2, none⟩ = some (.slice (some ⟨g', 0, none⟩) N cap') := by rw [cell_of_row _ rb _ _ _ _ R7]; rfl
          have Q9 : (W7.setRow qb #[.int .i64 0, .int .i64 0, .slice none 0 0]).heap[qb]? = some (recO 0 0 (.slice none 0 0)) := setRow_heap _ _ _ _ _ _ Q7
          have B9 := below_setRow B8 (Nat.le_refl _) #[.int .i64 0, .int .i64 0, .slice none 0 0] (b := qb)
          by_cases hbig : (60000 : Int) < (N : Int)
          · have hnone : Hid (rdRec (fun k => ch xs (u + k)) seq m 0 0 [] = none) := by
              show _ = _
              rw [hrd2.out, hN2.out, if_pos (by omega)]
            clear hrd2
            go_wp2_with (first | refine wpList_store_row rfl 91 _ _ rfl qb _ rfl rfl 91 _ Q7 y1 rfl y3 ?_)
            exact bodyPost_ret (v := .tuple #[.agg #[.int .i64 0, .int .i64 0, .slice none 0 0], .bool false]) (results_two Try.results88 rfl (load91 Q9) rfl) rfl ⟨.slice none 0 0, by rw [hnone.out]; rfl, B9.mono hq2, by rw [hnone.out]; intro l ys h; cases h⟩
          · cases last
            · have hnext : Hid (rdRec (fun k => ch xs (u + k)) seq m 0 0 [] = rdRec (fun k => ch xs (u + k)) seq r (j + 1) l (acc ++ ys)) := by
                show _ = _
                rw [hrd2.out, hN2.out, if_neg (by omega), if_neg (by simp)]
              clear hrd2
              have hw1 : IntKind.i64.wrap ((j : Int) + 1) = (j : Int) + 1 := by rw [IntKind.wrap_i64]; omega
              have er : m - (j + 1) = r := by have := hr.out; omega
              have en : n - 128 = 128 * (m - (j + 1)) := by have := hr.out; have := hn.out; omega
              have eC : C - 128 = cap - 128 * (j + 1) := by have := hC.out; omega
              have fin : ∀ a' n' c', n' = 128 * (m - (j + 1)) → c' = cap - 128 * (j + 1) → (j + 1 < m → a' = some ⟨gb, 128 * (u + (j + 1)), none⟩) → ∃ (j' : Nat) (a : Option Addr) (life : Int) (acc : List Int) (av : Value), j' ≤ m ∧ Value.int .i64 ((j : Int) + 1) = .int .i64 (j' : Int) ∧ Value.slice a' n' c' = .slice a (128 * (m - j')) (cap - 128 * j') ∧ (j' < m → a = some ⟨gb, 128 * (u + j'), none⟩) ∧ W7.heap[rb]? = some (recO life seq av) ∧ W7.heap[qb]? = some (recO 0 0 (.slice none 0 0)) ∧ W7.ownsRow qb 5 1 av acc.length (acc.map (Value.int .u8)) ∧ Below qb w W7 ∧ acc.length ≤ 60000 ∧ rdRec (fun k => ch xs (u + k)) seq m 0 0 [] = rdRec (fun k => ch xs (u + k)) seq (m - j') j' life acc   := fun a' n' c' hn' hc' ha' =>
                ⟨j + 1, a', l, acc ++ ys, _, by omega, by push_cast; rfl, by rw [hn', hc'], ha', R7, Q7, by rw [hN2.out]; exact O7, B8, by rw [hN2.out]; omega, by rw [er]; exact hnext.out⟩
              have en' := hn.out
              have eC' := hC.out
              have er' := hr.out
              have fin1 : C = 128 → ∀ a', _ := fun e a' => fin a' (n - 128) 0 (by omega) (by omega)
              have fin2 : ∀ a', _ := fun a' => fin a' (n - 128) (C - 128) (by omega) (by omega)
              have hlast : C = 128 → ¬ j + 1 < m := by omega
              clear er en eC en' eC' er'
              by_cases hC0 : C = 128
              · have hne' : ¬ j + 1 < m := hlast hC0
                have fin1 := fin1 hC0
                clear hlast fin2
                go_wp2
                go_roundw
                case rel => exact fin1 _ (fun h => absurd h hne')
                case measure => simp [intOf]; omega
              · have hC1 : ¬ 128 = C := by omega
                go_wp2
                go_roundw
                case rel => exact fin2 _ (fun h => by rw [show 128 * (u + j) + 128 = 128 * (u + (j + 1)) by omega])
                case measure => simp [intOf]; omega
            · have hsome : Hid (rdRec (fun k => ch xs (u + k)) seq m 0 0 [] = some (l, acc ++ ys)) := by
                show _ = _
                rw [hrd2.out, hN2.out, if_neg (by omega), if_pos rfl]
              clear hrd2
              have x1 : (Try.prog.info? 91).map (·.size) = some (#[Value.int .i64 l, .int .i64 seq, .slice (some ⟨g', 0, none⟩) N cap'] : Array Value).size := by kernel_rfl
              have x3 : (#[Value.int .i64 l, .int .i64 seq, .slice (some ⟨g', 0, none⟩) N cap'] : Array Value).all (·.oneCell') = true := by simp [Value.oneCell']
              have Q10 : (W7.setRow qb #[.int .i64 l, .int .i64 seq, .slice (some ⟨g', 0, none⟩) N cap']).heap[qb]? = _ := setRow_heap _ _ _ _ _ _ Q7
              have B10 := below_setRow B8 (Nat.le_refl _) #[.int .i64 l, .int .i64 seq, .slice (some ⟨g', 0, none⟩) N cap'] (b := qb)
              have O10 : (W7.setRow qb #[.int .i64 l, .int .i64 seq, .slice (some ⟨g', 0, none⟩) N cap']).ownsRow qb 5 1 (.slice (some ⟨g', 0, none⟩) N cap') N ((acc ++ ys).map (Value.int .u8)) := own_same O7 (fun g hg => setRow_other _ _ _ _ (fun e' => own_ne O7 Q7 (by decide) (by rw [hg, e'])))
              go_wp2_with (first | (refine wpList_value rfl (run_load91 rfl rfl R7) ?_) | refine wpList_store_row rfl 91 _ _ rfl qb _ rfl rfl 91 _ Q7 x1 rfl x3 ?_)
              exact bodyPost_ret (v := .tuple #[.agg #[.int .i64 l, .int .i64 seq, .slice (some ⟨g', 0, none⟩) N cap'], .bool true]) (results_two Try.results88 rfl (load91 Q10) rfl) rfl ⟨.slice (some ⟨g', 0, none⟩) N cap', by rw [hsome.out]; rfl, B10.mono hq2, by rw [hsome.out]; intro l' ys' h; injection h with h; injection h with h1 h2; subst h2; rw [hN2.out]; exact own_mono O10 hq2⟩
        · have hnone : Hid (rdRec (fun k => ch xs (u + k)) seq m 0 0 [] = none) := by
            show _ = _
            rw [hrd]
            conv => lhs; unfold rdRec
            cases ok
            · simp only [t2 rfl]
            · simp only [(t1 rfl).1]
              rw [if_pos]
              simp only [badR, Bool.not_true, Bool.false_or, Bool.or_eq_true, decide_eq_true_iff, Bool.and_eq_true] at hbd
              rcases hbd with h | h | ⟨h1, h2⟩
              · exact .inl h
              · exact .inr (.inl h)
              · exact .inr (.inr ⟨by omega, h2⟩)
          clear hrd hbd t1 t2
          have Q9 : (wc.setRow qb #[.int .i64 0, .int .i64 0, .slice none 0 0]).heap[qb]? = some (recO 0 0 (.slice none 0 0)) := setRow_heap _ _ _ _ _ _ Q4
          have B9 := below_setRow B5 (Nat.le_refl _) #[.int .i64 0, .int .i64 0, .slice none 0 0] (b := qb)
          go_wp2_with (first | refine wpList_store_row rfl 91 _ _ rfl qb _ rfl rfl 91 _ Q4 y1 rfl y3 ?_)
          exact bodyPost_ret (v := .tuple #[.agg #[.int .i64 0, .int .i64 0, .slice none 0 0], .bool false]) (results_two Try.results88 rfl (load91 Q9) rfl) rfl ⟨.slice none 0 0, by rw [hnone.out]; rfl, B9.mono hq2, by rw [hnone.out]; intro l ys h; cases h⟩
end Go.Proofs.Ytofgphiamllmdab
