/- Lists of records that are read; mayWrite and lay of them. -/
import Derived.Test.YtofgphiamllmdabAppX
import Derived.Test.YtofgphiamllmdabFullA
namespace Go.Proofs.Ytofgphiamllmdab
open Go.RowKit
set_option maxRecDepth 100000

/-- A record in memory that is read. -/
structure SlB (w : World) (v : Value) (ys : List Int) : Prop where
  at_ : ∃ g o c, v = .slice (some ⟨g, o, none⟩) ys.length c ∧ ys.length ≤ c ∧ g < w.heap.size ∧ ∀ i, i < ys.length → w.cell? ⟨g, o + i, none⟩ = some (.int .u8 (ys.getD i 0))
  byte : ∀ y ∈ ys, 0 ≤ y ∧ y < 256
  y0 : 1 ≤ ys.length
  y1 : ys.length ≤ 60000
/-- A list of records that is read. -/
structure SlL (w : World) (a : Option Addr) (recs : List (List Int)) : Prop where
  cell : ∀ (i : Nat) (ys : List Int), recs[i]? = some ys → ∃ b off x, a = some ⟨b, off, none⟩ ∧ b < w.heap.size ∧ w.cell? ⟨b, off + i, none⟩ = some x ∧ SlB w x ys
theorem PartAt.set {w : World} {v x : Value} {xs : List Int} {b i : Nat} (h : PartAt w v xs) (hb : v.ownBlock ≠ some b) : PartAt (w.setCell ⟨b, i, none⟩ x) v xs := by
  obtain ⟨ob, cap, c, t, rfl, h2, h3, h4, h5, h6, h7, h8, h9⟩ := h
  have e : (w.setCell ⟨b, i, none⟩ x).heap[ob]? = w.heap[ob]? := heap_setCell_other _ _ _ _ (by
    rintro rfl
    exact hb (by simp [Value.ownBlock]))
  refine ⟨ob, cap, c, t, rfl, h2, h3, e.trans h4, h5, h6, h7, ⟨h8.byte, fun j hj => ?_⟩, h9⟩
  rw [← h8.cell j hj]
  unfold World.cell?
  simp only [e]
theorem SlB.below {w w' : World} {v : Value} {ys : List Int} (h : SlB w v ys) (B : Below w.heap.size w w') : SlB w' v ys := by
  obtain ⟨⟨g, o, c, h1, h2, h3, h4⟩, h5, h6, h7⟩ := h
  exact ⟨⟨g, o, c, h1, h2, Nat.lt_of_lt_of_le h3 B.size, fun i hi => (B.cell (p := ⟨g, o + i, none⟩) h3).trans (h4 i hi)⟩, h5, h6, h7⟩
theorem SlL.below {w w' : World} {a : Option Addr} {recs : List (List Int)} (h : SlL w a recs) (B : Below w.heap.size w w') : SlL w' a recs := ⟨fun i ys hi => by
  obtain ⟨b, off, x, h1, h2, h3, h4⟩ := h.cell i ys hi
  exact ⟨b, off, x, h1, Nat.lt_of_lt_of_le h2 B.size, (B.cell (p := ⟨b, off + i, none⟩) h2).trans h3, h4.below B⟩⟩
section
variable {w : World} {lb p : Nat} {life half first since seq hs used : Int}
set_option maxHeartbeats 2000000 in
theorem may_any (hl : w.heap[lb]? = some (logO p life half first since seq hs used false)) {a : Option Addr} {m c : Nat} {recs : List (List Int)} (hr : SlL w a recs) (hm : recs.length = m) (hm1 : m ≤ 4096) :
    Calls Try.prog 53 #[.pointer (some ⟨lb, 0, none⟩), .slice a m c] w fun e w' => e = .returned (.int .i64 0) ∧ w = w' := by
  obtain ⟨c0, c1, c2, c3, c4, c5, c6, c7, c8, cf⟩ := log_cells hl
  have hlt : ¬ (4096 : Int) < (m : Int) := by omega
  go_enter Try.func53, Try.ntmps53
  go_wp2
  go_loopw [18] (fun iv wr => ∃ i : Nat, i ≤ m ∧ iv = .int .i64 (i : Int) ∧ wr = w) (fun iv _ => m - (intOf iv).toNat)
  case atStart => exact ⟨0, by omega, rfl, rfl⟩
  case round =>
    obtain ⟨i, hi, rfl, rfl⟩ := hrel
    by_cases him : i = m
    · subst him
      have hl2 : ¬ (i : Int) < (i : Int) := by omega
      go_wp2
      go_ret
      exact ⟨rfl, rfl⟩
    · have hl2 : (i : Int) < (m : Int) := by omega
      obtain ⟨ys, hys⟩ : ∃ ys, recs[i]? = some ys := ⟨_, List.getElem?_eq_getElem (by omega)⟩
      obtain ⟨b, off, x, rfl, hb, hx, ⟨⟨g, o, cc, rfl, _⟩, _, y0, y1⟩⟩ := hr.cell i ys hys
      have hw1 : IntKind.i64.wrap ((i : Int) + 1) = (i : Int) + 1 := by rw [IntKind.wrap_i64]; omega
      go_wp2_with fail
      refine (sectors_any (ys.length : Int) wr).mono ?_
      rintro e w1 ⟨rfl, rfl⟩
      obtain ⟨k, hk, hk1⟩ : ∃ k : Int, secs (ys.length : Int) = k ∧ 1 ≤ k := ⟨_, rfl, by unfold secs; rw [if_neg (by omega)]; omega⟩
      rw [hk]
      clear hk
      have hk0 : ¬ k = 0 := by omega
      have hk2 : (k == 0) = false := by simp [hk0]
      go_wp2
      go_roundw
      case rel => exact ⟨i + 1, by omega, by push_cast; rfl, trivial⟩
      case measure => simp [intOf]; omega
set_option maxHeartbeats 4000000 in
/-- The records' sectors, each in a block of its own. -/
theorem lay_any {a : Option Addr} {m c : Nat} {recs : List (List Int)} (hr : SlL w a recs) (hm : recs.length = m) (hm1 : m ≤ 4096) (q0 : 0 ≤ seq) (q1 : seq ≤ 1099511627776) :
    Calls Try.prog 60 #[.int .i64 life, .int .i64 seq, .slice a m c] w fun e w' => ∃ sb, e = .returned (.slice (some ⟨sb, 0, none⟩) m m) ∧ w.heap.size ≤ sb ∧ ∃ vs, w'.heap[sb]? = some (.cells vs 38 (0, 0)) ∧ (∀ (i : Nat) (ys : List Int), recs[i]? = some ys → ∃ v, vs[i]? = some v ∧ PartAt w' v (recB life (seq + (i : Int)) ys)) ∧ Below w.heap.size w w' := by
  obtain ⟨i0, hi, hz0, hz1, hz2⟩ := info_parts Try.info38
  go_enter Try.func60, Try.ntmps60
  go_wp2_with (at_make; refine wpList_make_row _ rfl _ _ 44 rfl 38 i0 (.slice none 0 0) Try.underlying44 hi hz0 hz1 rfl .i64 .i64 m (by simp [Act.eval]) (by simp [Act.eval]) (by rw [hz2]; omega) (by omega) ?_)
  have A0 := heap_alloc_new w (.cells (madeCells #[Value.slice none 0 0] m) 38)
  have B0 := box_below w (.cells (madeCells #[Value.slice none 0 0] m) 38)
  have hsz : (madeCells #[Value.slice none 0 0] m).size = m := by simp [madeCells]
  generalize w.alloc (.cells (madeCells #[Value.slice none 0 0] m) 38) = w1 at *
  generalize madeCells #[Value.slice none 0 0] m = vs0 at *
  obtain ⟨sb, hsb⟩ : ∃ b, w.heap.size = b := ⟨_, rfl⟩
  have hsb1 : sb ≤ w.heap.size := by omega
  have hsb2 : w.heap.size ≤ sb := by omega
  rw [hsb] at A0 B0 ⊢
  clear hsb
  go_loopw [15] (fun iv wr => ∃ (i : Nat) (vs : Array Value), i ≤ m ∧ iv = .int .i64 (i : Int) ∧ Below sb w wr ∧ vs.size = m ∧ wr.heap[sb]? = some (.cells vs 38 (0, 0)) ∧ ∀ (k : Nat) (ys : List Int), k < i → recs[k]? = some ys → ∃ v, vs[k]? = some v ∧ v.ownBlock ≠ some sb ∧ PartAt wr v (recB life (seq + (k : Int)) ys)) (fun iv _ => m - (intOf iv).toNat)
  case atStart => exact ⟨0, vs0, by omega, rfl, B0, hsz, A0, fun k ys hk => by omega⟩
  case round =>
    obtain ⟨i, vs, hi', rfl, B, hvs, A, hp⟩ := hrel
    clear A0 B0
    by_cases him : i = m
    · subst him
      have hl2 : ¬ (i : Int) < (i : Int) := by omega
      go_wp2
      go_ret
      exact ⟨sb, rfl, hsb2, vs, A, fun k ys hk => by
        obtain ⟨v, h1, _, h2⟩ := hp k ys (by have := (List.getElem?_eq_some_iff.1 hk).1; omega) hk
        exact ⟨v, h1, h2⟩, B.mono hsb2⟩
    · have hl2 : (i : Int) < (m : Int) := by omega
      obtain ⟨ys, hys⟩ : ∃ ys, recs[i]? = some ys := ⟨_, List.getElem?_eq_getElem (by omega)⟩
      obtain ⟨b, off, x, rfl, hb, hx0, ⟨⟨g, o, cc, rfl, hcc, hg, hcell⟩, hby, y0, y1⟩⟩ := hr.cell i ys hys
      have hx : wr.cell? ⟨b, off + i, none⟩ = some (.slice (some ⟨g, o, none⟩) ys.length cc) := (B.cell (p := ⟨b, off + i, none⟩) (show b < sb by omega)).trans hx0
      have hw1 : IntKind.i64.wrap ((i : Int) + 1) = (i : Int) + 1 := by rw [IntKind.wrap_i64]; omega
      have hw2 : IntKind.i64.wrap (seq + (i : Int)) = seq + (i : Int) := by rw [IntKind.wrap_i64]; omega
      have hwr := B.size
      go_wp2_with fail
      refine (recSectors_any life (seq + (i : Int)) rfl (by omega) y1 hcc (Nat.lt_of_lt_of_le hg hwr) hby (fun k hk => (B.cell (p := ⟨g, o + k, none⟩) (show g < sb by omega)).trans (hcell k hk))).mono ?_
      rintro e w2 ⟨ob, rfl, hob, O2, B2⟩
      have A2 := (B2.block sb (lt_of_block A)).trans A
      have B3 := below_size B hsb1 B2
      have hp2 : ∀ (k : Nat) (zs : List Int), k < i → recs[k]? = some zs → ∃ v, vs[k]? = some v ∧ v.ownBlock ≠ some sb ∧ PartAt w2 v (recB life (seq + (k : Int)) zs) := fun k zs hk hz => by
        obtain ⟨v, h1, h3, h2⟩ := hp k zs hk hz
        exact ⟨v, h1, h3, h2.keep (fun g c t hg _ _ _ => B2.block g (lt_of_block hg))⟩
      have hob2 : ob ≠ sb := by have := lt_of_block A; omega
      have hrl : (recB life (seq + (i : Int)) ys).length = 128 * ((ys.length + 111) / 112) := by rw [recB_len life _ hby]; omega
      have hP2 := part5 O2 (recB_byte life _ hby) hrl (by omega) (by omega)
      clear A hp B2 hx hx0 hcell
      obtain ⟨k, hk⟩ : ∃ k, Hid ((ys.length + 111) / 112 * 128 = k) := ⟨_, rfl⟩
      rw [hk.out] at hP2 ⊢
      obtain ⟨x2, q2⟩ : ∃ x, w2.cell? ⟨sb, i, none⟩ = some x := ⟨_, by rw [cell_of_row _ sb _ _ _ _ A2]; exact Array.getElem?_eq_getElem (by omega)⟩
      have f2 : w2.frozen? ⟨sb, i, none⟩ = false := frozen_of_row w2 sb i _ _ A2
      have fin : ∃ (i' : Nat) (vs' : Array Value), i' ≤ m ∧ Value.int .i64 ((i : Int) + 1) = .int .i64 (i' : Int) ∧ Below sb w (w2.setCell ⟨sb, i, none⟩ (.slice (some ⟨ob, 0, none⟩) k k)) ∧ vs'.size = m ∧ (w2.setCell ⟨sb, i, none⟩ (.slice (some ⟨ob, 0, none⟩) k k)).heap[sb]? = some (.cells vs' 38 (0, 0)) ∧ ∀ (k' : Nat) (zs : List Int), k' < i' → recs[k']? = some zs → ∃ v, vs'[k']? = some v ∧ v.ownBlock ≠ some sb ∧ PartAt (w2.setCell ⟨sb, i, none⟩ (.slice (some ⟨ob, 0, none⟩) k k)) v (recB life (seq + (k' : Int)) zs) := by
        refine ⟨i + 1, vs.setIfInBounds i (.slice (some ⟨ob, 0, none⟩) k k), by omega, by push_cast; rfl, below_setCell B3 (Nat.le_refl _), by simpa using hvs, heap_setCell_same w2 sb i _ _ _ A2, fun k' zs hk' hz => ?_⟩
        by_cases e : k' = i
        · subst e
          rw [hys] at hz
          injection hz with hz
          subst hz
          exact ⟨_, by rw [Array.getElem?_setIfInBounds]; simp; omega, by simpa [Value.ownBlock] using hob2, hP2.set (by simpa [Value.ownBlock] using hob2)⟩
        · obtain ⟨v, h1, h3, h2⟩ := hp2 k' zs (by omega) hz
          exact ⟨v, by rw [Array.getElem?_setIfInBounds, if_neg (by omega)]; exact h1, h3, h2.set h3⟩
      clear hp2 hP2 A2 B3 O2
      go_wp2
      go_roundw
      case rel => exact fin
      case measure => simp [intOf]; omega
end
end Go.Proofs.Ytofgphiamllmdab
