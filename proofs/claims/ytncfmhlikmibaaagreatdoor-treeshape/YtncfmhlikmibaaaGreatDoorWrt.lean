/- The writer's builder. -/
import Derived.Test.YtncfmhlikmibaaaGreatDoorBlq
import Derived.Test.YtncfmhlikmibaaaGreatDoorNda
import Derived.Test.YtncfmhlikmibaaaGreatDoorLxQ
import Derived.Test.YtncfmhlikmibaaaGreatDoorArs
import Derived.Test.YtncfmhlikmibaaaGreatDoorRep
import Derived.Test.YtncfmhlikmibaaaGreatDoorSta
namespace Go.Proofs.YtncfmhlikmibaaaGreatDoor
open Go.RowKit
set_option maxRecDepth 100000
theorem wri_size : (Tryz.prog.info? 70).map (·.size) = some 2 := by kernel_rfl
theorem wri_lies : liesAt Tryz.prog Tryz.prog.depth 70 (2 / Tryz.prog.cellsOf 70) 0 68 1 = true := by kernel_rfl
set_option maxHeartbeats 2000000 in
theorem copyCheck_fresh70 (b : Nat) (w : World) (h0 : w.cell? ⟨b, 0, none⟩ = some (.pointer none)) (hsh : w.shape? b = some (70, 2)) (hfz : w.frozen? ⟨b, 0, none⟩ = false) :
    Calls Tryz.prog 105 #[.pointer (some ⟨b, 0, none⟩)] w fun e w' => e = .returned (.tuple #[]) ∧ w' = w.setCell ⟨b, 0, none⟩ (.pointer (some ⟨b, 0, none⟩)) := by
  obtain ⟨j, hj, hjs⟩ := Option.map_eq_some_iff.1 bld_size
  go_enter Tryz.func105, Tryz.ntmps105
  go_wp2
  rw [Lib.run_to_unsafe w ⟨b, 0, none⟩ Tryz.underlying65 Tryz.underlying139 hj (by rw [hjs]; decide) hsh (Nat.zero_lt_succ 1)]
  simp only [Result.andThen]
  rw [Oper.upon_value]
  go_wp2
  rw [run_callFunc_extern Tryz.func124 (by kernel_rfl) (by kernel_rfl) (by kernel_rfl) (e := Extern.AbiNoEscape.same) (by kernel_rfl)]
  rw [Lib.run_noEscape]
  simp only [Result.andThen]
  rw [Oper.upon_value]
  go_wp2
  rw [Lib.run_from_unsafe w ⟨b, 0, none⟩ Tryz.underlying139 Tryz.underlying65 hj hsh wri_lies]
  simp only [Result.andThen]
  rw [Oper.upon_value]
  go_wp2
  go_end0
  exact ⟨rfl, rfl⟩
theorem copyCheck_used70 (b : Nat) (w : World) (h0 : w.cell? ⟨b, 0, none⟩ = some (.pointer (some ⟨b, 0, none⟩))) :
    Calls Tryz.prog 105 #[.pointer (some ⟨b, 0, none⟩)] w fun e w' => e = .returned (.tuple #[]) ∧ w' = w := by
  obtain ⟨j, hj, _⟩ := Option.map_eq_some_iff.1 bld_size
  go_enter Tryz.func105, Tryz.ntmps105
  go_wp2
  rw [Lib.run_neq_ptr_same w _ Tryz.underlying65 hj]
  go_wp2
  go_end0
  exact ⟨rfl, rfl⟩
theorem copyCheck_k70 (B b : Nat) (bs : List Value) (w : World) (h : Lib.IsBuilderF 70 5 B b bs w) :
    Calls Tryz.prog 105 #[.pointer (some ⟨b, 0, none⟩)] w fun e w' => e = .returned (.tuple #[]) ∧ (Lib.BuilderAtF 70 5 B b (.pointer (some ⟨b, 0, none⟩)) bs w' ∧ Below B w w' ∧ Lib.OthersKept 5 (some b) w w') := by
  rcases h with h | h
  · refine (copyCheck_fresh70 b w h.cell0 h.shape h.frozen0).mono ?_
    rintro e w' ⟨rfl, rfl⟩
    exact ⟨rfl, h.used _, (Below.refl B w).setCell (p := ⟨b, 0, none⟩) h.1 _, (Lib.OthersKept.refl _ _ w).setCell ⟨b, 0, none⟩ rfl _⟩
  · refine (copyCheck_used70 b w h.cell0).mono ?_
    rintro e w' ⟨rfl, rfl⟩
    exact ⟨rfl, h, Below.refl B _, Lib.OthersKept.refl _ _ _⟩
set_option maxHeartbeats 4000000 in
theorem writeString_k70 (B b : Nat) (bs : List Value) (s : ByteArray) (w : World) (h : Lib.IsBuilderF 70 5 B b bs w) (hlen : bs.length + s.size ≤ 140737488355328) (hBw : B ≤ w.heap.size) :
    Calls Tryz.prog 82 #[.pointer (some ⟨b, 0, none⟩), .string s] w fun e w' => e = .returned (.tuple #[.int .i64 s.size, .nilIface]) ∧ (Lib.BuilderAtF 70 5 B b (.pointer (some ⟨b, 0, none⟩)) (bs ++ Lib.strCells s) w' ∧ Below B w w' ∧ Lib.OthersKept 5 (some b) w w') := by
  obtain ⟨i0, hi, hz0, hz1, hz2⟩ := info_parts Tryz.info5
  go_enter Tryz.func82, Tryz.ntmps82
  go_wp2_with (go_at_call 105; refine (copyCheck_k70 B b bs _ h).mono ?_)
  rintro e w1 ⟨rfl, h1, hb1, hk1⟩
  obtain ⟨hB, v, hbk, hown, hne⟩ := h1
  have c0 : w1.cell? ⟨b, 0, none⟩ = some (.pointer (some ⟨b, 0, none⟩)) := by rw [Lib.cell_of_heap hbk]; rfl
  have c1 : w1.cell? ⟨b, 1, none⟩ = some v := by rw [Lib.cell_of_heap hbk]; rfl
  go_wp2_with (at_builtin; refine Lib.wpList_append_own_stringF _ rfl _ _ 66 9 rfl B 5 i0 Tryz.underlying66 Tryz.underlying9 hi hz0 hz1 hz2 _ _ _ rfl hown s rfl ?c3 ?c4 ?c5 ?_)
  case c3 => unfold maxLen; omega
  case c4 => omega
  case c5 => have := hb1.size; omega
  intro v' w2 hown' hgrow _
  have hlt : b < w1.heap.size := lt_of_block hbk
  have hb2 : w2.heap[b]? = some (.cells #[.pointer (some ⟨b, 0, none⟩), v] 70 (0, 0)) := by
    rw [hgrow.block b hlt (fun e => hne e.symm)]
    exact hbk
  have d0 : w2.cell? ⟨b, 0, none⟩ = some (.pointer (some ⟨b, 0, none⟩)) := by rw [Lib.cell_of_heap hb2]; rfl
  have d1 : w2.cell? ⟨b, 1, none⟩ = some v := by rw [Lib.cell_of_heap hb2]; rfl
  have f1 : w2.frozen? ⟨b, 1, none⟩ = false := Lib.frozen_of_heap hb2 1
  obtain ⟨ao, n', cap, rfl⟩ : ∃ ao n' cap, v' = .slice ao n' cap := by
    rcases hown'.2 with ⟨hv, _⟩ | ⟨g, cap, cur, fz, hv, _⟩
    · exact ⟨_, _, _, hv⟩
    · exact ⟨_, _, _, hv⟩
  go_wp2
  go_ret2
  refine ⟨rfl, ?_, ?_, (hk1.grown hgrow (Lib.ownsRowF_kind hown)).setCell ⟨b, 1, none⟩ rfl _⟩
  · exact Lib.BuilderAtF.put (T := 70) (e := 5) hB hb2 (bs' := bs ++ Lib.strCells s) (by simpa [Lib.strCells_length] using hown') (by decide)
  · exact (hb1.grown hgrow (by have := hb1.size; omega) (fun k hk => (hown.lt k hk).1)).setCell (p := ⟨b, 1, none⟩) hB _
set_option maxHeartbeats 2000000 in
theorem string70 (B b : Nat) (l : List UInt8) (w : World) (h : Lib.IsBuilderF 70 5 B b (Lib.byteCells l) w) (h0 : l ≠ []) :
    Calls Tryz.prog 34 #[.pointer (some ⟨b, 0, none⟩)] w fun e w' => e = .returned (.string ⟨l.toArray⟩) ∧ (Lib.IsBuilderF 70 5 B b (Lib.byteCells l) w' ∧ Below B w w' ∧ Lib.OthersKept 5 (some b) w w') := by
  obtain ⟨p, hp, hAt⟩ : ∃ p, (p = .pointer none ∨ p = .pointer (some ⟨b, 0, none⟩)) ∧ Lib.BuilderAtF 70 5 B b p (Lib.byteCells l) w := by
    rcases h with h | h
    · exact ⟨_, .inl rfl, h⟩
    · exact ⟨_, .inr rfl, h⟩
  obtain ⟨hB, v, hbk, hown, hne⟩ := hAt
  have hl0 : l.length ≠ 0 := by simpa using h0
  rw [Lib.byteCells_length] at hown
  obtain ⟨g, cap, cur, fz, rfl, hbg, hg, hfz, hnc, hcm, hcs, htake⟩ : ∃ g cap cur fz, v = .slice (some ⟨g, 0, none⟩) l.length cap ∧ B ≤ g ∧ w.heap[g]? = some (.cells cur 5 fz) ∧ fz.2 ≤ l.length * 1 ∧ l.length ≤ cap ∧ cap ≤ maxLen ∧ cur.size = cap * 1 ∧ cur.toList.take (l.length * 1) = Lib.byteCells l := by
    rcases hown.2 with ⟨_, hz⟩ | ⟨g, cap, cur, fz, hv, r⟩
    · exact absurd hz hl0
    · exact ⟨g, cap, cur, fz, hv, r⟩
  have c1 : w.drew.cell? ⟨b, 1, none⟩ = some (.slice (some ⟨g, 0, none⟩) l.length cap) := by
    have : w.drew.heap[b]? = some (.cells #[p, .slice (some ⟨g, 0, none⟩) l.length cap] 70 (0, 0)) := hbk
    rw [Lib.cell_of_heap this]; rfl
  have hSD : (Builtin.unsafeSliceData_ #[66] 90 #[.slice (some ⟨g, 0, none⟩) l.length cap]).run Tryz.prog w.drew = .ok (.pointer (some ⟨g, 0, none⟩)) w.drew :=
    Lib.run_unsafeSliceData_row _ _ _ _ _ _ (by omega)
  have hUS : (Builtin.unsafeString_ #[90, 3] 9 #[.pointer (some ⟨g, 0, none⟩), .int .i64 l.length]).run Tryz.prog w.drew = .ok (.string ⟨l.toArray⟩) (w.drew.freeze ⟨g, 0, none⟩ l.length) := by
    refine Lib.run_unsafeString_row w.drew 90 3 9 5 Tryz.underlying90 (by kernel_rfl) g cur.size (by have hg' : w.drew.heap[g]? = some (.cells cur 5 fz) := hg; simp [World.shape?, hg']) l h0 (by omega) (by unfold maxLen at hcm; omega) ?_
    intro j x hx
    have := hown.cells (g := g) rfl j (.int .u8 x.toNat) (by simp [Lib.byteCells, hx])
    exact this
  -- the builder behind the call: its bytes frozen; a builder still
  have hkeep : Lib.IsBuilderF 70 5 B b (Lib.byteCells l) (w.drew.freeze ⟨g, 0, none⟩ l.length) := by
    have hA : Lib.BuilderAtF 70 5 B b p (Lib.byteCells l) w.drew := ⟨hB, _, hbk, by rw [Lib.byteCells_length]; exact hown, hne⟩
    have hF := hA.froze (g := g) (cap := cap) (by rw [Lib.byteCells_length]; exact c1)
    rw [Lib.byteCells_length] at hF
    rcases hp with rfl | rfl
    · exact .inl hF
    · exact .inr hF
  have mixed : Tryz.prog.follows .mixedOrders = true := by kernel_rfl
  go_enter Tryz.func34, Tryz.ntmps34
  go_wp2
  go_region_o
  all_goals (go_wp2; go_ret; exact ⟨rfl, hkeep, Lib.below_freeze (Below.drew (Below.refl B w)) (p := ⟨g, 0, none⟩) hbg _, ((Lib.OthersKept.refl _ _ w).drew).freeze ⟨g, 0, none⟩ _ ⟨cur, fz, hg⟩⟩)
end Go.Proofs.YtncfmhlikmibaaaGreatDoor
namespace Go.Proofs.YtncfmhlikmibaaaGreatDoor
open Go.RowKit
set_option maxRecDepth 100000
/-- A writer that holds a text. -/
def Wr (q : Nat) (t : List Int) (w : World) : Prop := Lib.IsBuilderF 70 5 q q (t.map (Value.int .u8)) w
/-- What a call on the writer leaves alone. -/
structure Wf (q : Nat) (w w' : World) : Prop where
  bel : Below q w w'
  oth : Lib.OthersKept 5 (some q) w w'
theorem Wf.refl (q : Nat) (w : World) : Wf q w w := ⟨Below.refl _ _, Lib.OthersKept.refl _ _ _⟩
theorem Wf.trans {q : Nat} {a b c : World} (h : Wf q a b) (k : Wf q b c) : Wf q a c := ⟨h.bel.trans k.bel, h.oth.trans k.oth⟩
theorem Wf.of_below {q : Nat} {w w' : World} (h : Below w.heap.size w w') (hq : q < w.heap.size) : Wf q w w' :=
  ⟨h.mono (by omega), fun k o hk _ _ => (h.block k (lt_of_block hk)).trans hk⟩
theorem Wf.size {q : Nat} {w w' : World} (h : Wf q w w') : w.heap.size ≤ w'.heap.size := h.bel.size
theorem Wf.row {q g : Nat} {w w' : World} {cs : Array Value} {e : TypeId} (h : Wf q w w') (hg : w.heap[g]? = some (.cells cs e)) (he : e ≠ 5) (hq : g ≠ q) : w'.heap[g]? = some (.cells cs e) :=
  h.oth g _ hg (by simpa using hq) (fun c fz => by simp [he])
theorem Wr.lt {q : Nat} {t : List Int} {w : World} (h : Wr q t w) : q < w.heap.size := by
  rcases h with h | h
  · obtain ⟨_, v, hb, _⟩ := h; exact lt_of_block hb
  · obtain ⟨_, v, hb, _⟩ := h; exact lt_of_block hb
theorem bld_keep {q : Nat} {p : Value} {bs : List Value} {w w' : World} (h : Lib.BuilderAtF 70 5 q q p bs w) (k : ∀ b, b < w.heap.size → w'.heap[b]? = w.heap[b]?) : Lib.BuilderAtF 70 5 q q p bs w' := by
  obtain ⟨hB, v, hbk, hown, hne⟩ := h
  refine ⟨hB, v, (k q (lt_of_block hbk)).trans hbk, ⟨hown.1, ?_⟩, hne⟩
  rcases hown.2 with h | ⟨g, cap, cur, fz, h1, h2, h3, h4⟩
  · exact .inl h
  · exact .inr ⟨g, cap, cur, fz, h1, h2, (k g (lt_of_block h3)).trans h3, h4⟩
theorem Wr.bel {q : Nat} {t : List Int} {w w' : World} (h : Wr q t w) (B : Below w.heap.size w w') : Wr q t w' :=
  h.elim (fun h => .inl (bld_keep h fun b hb => B.block b hb)) (fun h => .inr (bld_keep h fun b hb => B.block b hb))
/-- Blocks that a writer leaves alone. -/
def Nb (q : Nat) (w : World) (b : Nat) : Prop := b < q ∨ (b ≠ q ∧ ∃ cs, w.heap[b]? = some (.cells cs 25))
theorem Nb.wf {q b : Nat} {w w' : World} (h : Nb q w b) (k : Wf q w w') : Nb q w' b ∧ w'.heap[b]? = w.heap[b]? := by
  rcases h with h | ⟨h, cs, e⟩
  · exact ⟨.inl h, k.bel.block b h⟩
  · have := k.row e (by decide) h
    exact ⟨.inr ⟨h, cs, this⟩, this.trans e.symm⟩
theorem NdV.wf {q : Nat} {w w' : World} {x : Nd} {v : Value} (h : NdV (Nb q w) w x v) (k : Wf q w w') : NdV (Nb q w') w' x v :=
  h.imp (fun _ _ hb => hb.wf k) x v
theorem SlF.wf {q : Nat} {w w' : World} {a : Option Addr} {n c : Nat} {fl : List Value} (h : SlF (Nb q w) w a n c fl) (k : Wf q w w') : SlF (Nb q w') w' a n c fl :=
  h.imp (fun _ _ hb => hb.wf k)
theorem KsF.wf {q : Nat} {w w' : World} {xs : List Nd} {fl : List Value} (h : KsF (Nb q w) w xs fl) (k : Wf q w w') : KsF (Nb q w') w' xs fl :=
  h.imp (fun _ _ hb => hb.wf k) xs fl
set_option maxHeartbeats 4000000 in
theorem put_any (q g c : Nat) (ts : List (List Int)) (t : List Int) (w : World) (hW : Wr q t w) (hg : w.heap[g]? = some (.cells (ts.map strV).toArray 9)) (hgq : g ≠ q) (hb : ∀ u ∈ ts, ∀ x ∈ u, 0 ≤ x ∧ x < 256) (hl : t.length + ts.flatten.length ≤ 1000000000) (hn : ts.length ≤ 1000000) :
    Calls Tryz.prog 50 #[.pointer (some ⟨q, 0, none⟩), .slice (some ⟨g, 0, none⟩) ts.length c] w fun e w' => e = .returned (.tuple #[]) ∧ Wr q (t ++ ts.flatten) w' ∧ Wf q w w' := by
  go_enter Tryz.func50, Tryz.ntmps50
  go_wp2_with fail
  go_loopw [8] (fun v wr => ∃ (i : Nat), v = .int .i64 (i : Int) ∧ i ≤ ts.length ∧ Wr q (t ++ (ts.take i).flatten) wr ∧ Wf q w wr) (fun v _ => ts.length - (intOf v).toNat)
  case atStart => exact ⟨0, rfl, Nat.zero_le _, by simpa using hW, Wf.refl _ _⟩
  case round =>
    obtain ⟨i, rfl, hi, hWr, hF⟩ := hrel
    by_cases hp : i < ts.length
    · have hltI : (i : Int) < (ts.length : Int) := by omega
      have hi0 : (0 : Int) ≤ (i : Int) := by omega
      have hw1 : IntKind.i64.wrap ((i : Int) + 1) = ((i + 1 : Nat) : Int) := by rw [IntKind.wrap_i64]; omega
      have hgr := hF.row hg (by decide) hgq
      obtain ⟨u, hu⟩ : ∃ u, ts[i] = u := ⟨_, rfl⟩
      have hc0 : wr.cell? ⟨g, i, none⟩ = some (.string (strOfNums u)) := by
        simp [World.cell?, hgr, hp, hu, strV]
      have hbu : ∀ x ∈ u, 0 ≤ x ∧ x < 256 := hb u (hu ▸ List.getElem_mem hp)
      have htk : (ts.take (i + 1)).flatten = (ts.take i).flatten ++ u := by
        rw [List.take_succ_eq_append_getElem hp, hu]; simp
      have hlen : (t ++ (ts.take i).flatten).length + u.length ≤ 1000000000 := by
        have h1 : ts.flatten = (ts.take (i + 1)).flatten ++ (ts.drop (i + 1)).flatten := by rw [← List.flatten_append, List.take_append_drop]
        have h2 := congrArg List.length h1
        rw [htk] at h2
        simp only [List.length_append] at h2 ⊢
        omega
      have hwr := hWr.lt
      go_wp2_with fail
      refine (writeString_k70 q q _ (strOfNums u) wr hWr (by rw [strOfNums_size, List.length_map]; omega) (by omega)).mono ?_
      rintro e w1 ⟨rfl, h1, b1, k1⟩
      rw [strCells_nums u hbu, ← List.map_append, List.append_assoc, ← htk] at h1
      have hF1 := hF.trans ⟨b1, k1⟩
      clear hc0 hgr htk hWr
      go_wp2
      go_roundw
      case rel => exact ⟨i + 1, by go_num, hp, .inr h1, hF1⟩
      case measure => simp [intOf]; omega
    · have hltI : ¬ (i : Int) < (ts.length : Int) := by omega
      obtain rfl : i = ts.length := by omega
      rw [List.take_length] at hWr
      go_wp2
      go_end0
      exact ⟨rfl, hWr, hF⟩
/-- The part at a place of a row. -/
theorem part_any (q : Nat) {w : World} {xs : List Nd} {fl : List Value} {ka : Option Addr} {kc : Nat} (i : Nat) (x : Nd) (hx : xs[i]? = some x) (hq : q < w.heap.size) (sl : SlF (Nb q w) w ka xs.length kc fl) (kf : KsF (Nb q w) w xs fl) :
    Calls Tryz.prog 87 #[.slice ka xs.length kc, .int .i64 (i : Int)] w fun e w' => ∃ v, e = .returned v ∧ NdV (Nb q w') w' x v ∧ Below w.heap.size w w' := by
  have hi : i < xs.length := (List.getElem?_eq_some_iff.1 hx).1
  have hfl := kf.len
  obtain ⟨b, off, rfl, hA, hc⟩ := sl.cells (by omega)
  obtain ⟨v0, v1, v2, v3, v4, v5, hN, e0, e1, e2, e3, e4, e5⟩ := kf.at_ i x hx
  obtain ⟨na, nc, la, lc, _, hv, _⟩ := hN.parts
  simp only [Value.agg.injEq, Array.mk.injEq, List.cons.injEq, and_true] at hv
  obtain ⟨rfl, rfl, rfl, rfl, rfl, rfl⟩ := hv
  have c0 := hc _ _ e0
  have c1 := hc _ _ e1
  have c2 := hc _ _ e2
  have c3 := hc _ _ e3
  have c4 := hc _ _ e4
  have c5 := hc _ _ e5
  simp only [← Nat.add_assoc] at c1 c2 c3 c4 c5
  have hltI : (i : Int) < (xs.length : Int) := by omega
  have hi0 : (0 : Int) ≤ (i : Int) := by omega
  have hm := sl.room
  go_enter Tryz.func87, Tryz.ntmps87
  go_wp2_with (refine al25 _ rfl rfl ?_)
  intro q4 w1 E1 hq4 B1
  have tr : ∀ j u, w.cell? ⟨b, j, none⟩ = some u → w1.cell? ⟨b, j, none⟩ = some u := fun j u h => (World.cell?_of_block (a := ⟨b, j, none⟩) (B1.block b (block_lt_of_cell h))).trans h
  replace c0 := tr _ _ c0
  replace c1 := tr _ _ c1
  replace c2 := tr _ _ c2
  replace c3 := tr _ _ c3
  replace c4 := tr _ _ c4
  replace c5 := tr _ _ c5
  clear tr hc e0 e1 e2 e3 e4 e5
  go_wp2_with (refine st25 _ rfl _ _ rfl rfl _ _ _ _ _ _ _ _ _ _ _ rfl rfl E1 ?_)
  intro wz Ez Sz
  go_wp2
  have B2 : Below w.heap.size w wz := B1.trans (Sz.below hq4)
  exact bodyPost_ret (results_cellT (a := 4) (t := 25) (by rfl) (by rfl) (load25 Ez)) (by rfl) ⟨_, rfl, hN.wf (Wf.of_below B2 hq), B2⟩
/-- Whether a part stands in brackets. -/
def inB (x : Nd) (tight : Bool) : Bool := if x.kind = 6 ∨ x.kind = 8 then true else if x.kind ≠ 7 ∨ argsL x.text = 0 then false else tight || !sgnL x.text
set_option maxHeartbeats 4000000 in
theorem inBrackets_any {w : World} {A : Nat → Prop} {x : Nd} {v : Value} (hN : NdV A w x v) (hb : ∀ y ∈ x.text, 0 ≤ y ∧ y < 256) (tight : Bool) :
    Calls Tryz.prog 107 #[v, .bool tight] w fun e w' => e = .returned (.bool (inB x tight)) ∧ Below w.heap.size w w' := by
  obtain ⟨na, nc, la, lc, _, rfl, _, _, _, _, _, hlt⟩ := hN.parts
  have ha := fun w => args_is x.text w hb (by omega)
  have hs := fun w => signed_is x.text w hb (by omega)
  have hB0 : Below w.heap.size w (w.alloc (.cells #[.int .i64 x.kind, .string (strOfNums x.text), .int .i64 (x.pos : Int), .int .i64 (x.n : Int), .slice na x.names.length nc, .slice la x.kids.length lc] 25)) := boxO
  have E0 := newO w (.cells #[.int .i64 x.kind, .string (strOfNums x.text), .int .i64 (x.pos : Int), .int .i64 (x.n : Int), .slice na x.names.length nc, .slice la x.kids.length lc] 25)
  obtain ⟨z0, z1, z2, z3, z4, z5, _⟩ := nd_cells E0
  unfold inB
  generalize argsL x.text = n at *
  generalize sgnL x.text = sg at *
  by_cases h6 : x.kind = 6
  · have hk : (x.kind == 6) = true := by simp [h6]
    rw [if_pos (.inl h6)]
    clear hB0
    go_enter Tryz.func107, Tryz.ntmps107
    go_wp2
    go_ret
    exact ⟨rfl, boxO⟩
  · have hk : (x.kind == 6) = false := by simp [h6]
    by_cases h8 : x.kind = 8
    · have hk8 : (x.kind == 8) = true := by simp [h8]
      rw [if_pos (.inr h8)]
      clear hB0
      go_enter Tryz.func107, Tryz.ntmps107
      go_wp2
      go_ret
      exact ⟨rfl, boxO⟩
    · have hk8 : (x.kind == 8) = false := by simp [h8]
      rw [if_neg (by simp [h6, h8])]
      by_cases h7 : x.kind = 7
      · have hk7 : (x.kind != 7) = false := by simp [h7]
        by_cases hn0 : n = 0
        · have hnb : ((n : Int) == 0) = true := by simp [hn0]
          rw [if_pos (.inr hn0)]
          clear hB0 hn0
          go_enter Tryz.func107, Tryz.ntmps107
          go_wp2_with fail
          refine (ha _).mono ?_
          rintro e w2 ⟨rfl, B2⟩
          go_wp2
          go_ret
          exact ⟨rfl, boxO.trans (B2.mono boxO.size)⟩
        · have hnb : ((n : Int) == 0) = false := by simp [hn0]
          rw [if_neg (by simp [h7, hn0])]
          clear hB0 hn0
          cases tight with
          | true =>
            go_enter Tryz.func107, Tryz.ntmps107
            go_wp2_with fail
            refine (ha _).mono ?_
            rintro e w2 ⟨rfl, B2⟩
            have B02 := boxO.trans (B2.mono boxO.size)
            go_wp2
            go_ret
            exact ⟨rfl, B02⟩
          | false =>
            go_enter Tryz.func107, Tryz.ntmps107
            go_wp2_with fail
            refine (ha _).mono ?_
            rintro e w2 ⟨rfl, B2⟩
            have B02 := boxO.trans (B2.mono boxO.size)
            have E2 := (B2.block _ (by simp)).trans (newO w _)
            obtain ⟨y0, y1, y2, y3, y4, y5, _⟩ := nd_cells E2
            go_wp2_with fail
            refine (hs _).mono ?_
            rintro e w3 ⟨rfl, rfl⟩
            cases sg with
            | true =>
              go_wp2
              go_ret
              exact ⟨rfl, B02⟩
            | false =>
              go_wp2
              go_ret
              exact ⟨rfl, B02⟩
      · have hk7 : (x.kind != 7) = true := by simp [h7]
        rw [if_pos (.inl h7)]
        clear hB0
        go_enter Tryz.func107, Tryz.ntmps107
        go_wp2
        go_ret
        exact ⟨rfl, boxO⟩
end Go.Proofs.YtncfmhlikmibaaaGreatDoor
