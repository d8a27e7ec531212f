/- Lists of records in memory. -/
import Derived.Test.YtofgphiamllmdabKeepB
import Derived.Test.YtofgphiamllmdabIsB
import Derived.BigQuiet
import Derived.Deep.QuietTactic
import Derived.Test.YtofgphiamllmdabKnown
import Derived.Deep.RegionLawGrows
import Derived.Deep.Grids
import Derived.ChangeArms
namespace Go.Proofs.Ytofgphiamllmdab
open Go.RowKit
set_option maxRecDepth 100000

/-- A record in a block of bytes. -/
structure RB (w : World) (v : Value) (ys : List Int) : Prop where
  at_ : ∃ g o c cs, v = .slice (some ⟨g, o, none⟩) ys.length c ∧ ys.length ≤ c ∧ c ≤ maxLen ∧ w.heap[g]? = some (.cells cs 5 (0, 0)) ∧ ∀ i, i < ys.length → cs[o + i]? = some (.int .u8 (ys.getD i 0))
  byte : ∀ y ∈ ys, 0 ≤ y ∧ y < 256
  y0 : 1 ≤ ys.length
  y1 : ys.length ≤ 60000
/-- What leaves blocks of bytes and of slices alone. -/
def Keeps (w w' : World) : Prop := ∀ (g : Nat) (cs : Array Value) (t : Nat), (t = 5 ∨ t = 38) → w.heap[g]? = some (.cells cs t (0, 0)) → w'.heap[g]? = w.heap[g]?
theorem Keeps.trans {w w1 w2 : World} (h : Keeps w w1) (k : Keeps w1 w2) : Keeps w w2 := fun g cs t ht hg => (k g cs t ht ((h g cs t ht hg).trans hg)).trans (h g cs t ht hg)
theorem Keeps.of_below {w w' : World} (h : Below w.heap.size w w') : Keeps w w' := fun g _ _ _ hg => h.block g (lt_of_block hg)
theorem Keeps.set {w : World} {b i t : Nat} {c : Array Value} {x : Value} (hb : w.heap[b]? = some (.cells c t (0, 0))) (h5 : t ≠ 5) (h38 : t ≠ 38) : Keeps w (w.setCell ⟨b, i, none⟩ x) := fun g cs t' ht hg => heap_setCell_other _ _ _ _ (by
  rintro rfl
  rw [hb] at hg
  have := cells_ty hg
  subst this
  rcases ht with h | h
  · exact h5 h
  · exact h38 h)
theorem Keeps.of_fl {w w' : World} {n₀ p bs bn lb : Nat} {pv : Value} {size : Int} {G0 G1 : Int → List Int} {L : List (Int × List Int)} {left : Int} {dead : Bool} {lg : Array Value} (F : Fl lb p bs bn w pv w') (D : Dev w n₀ p bs bn pv size G0 G1 L left dead) (hl : w.heap[lb]? = some (.cells lg 89 (0, 0))) : Keeps w w' := fun g cs t ht hg => by
  have d := D.apart hg (by rcases ht with rfl | rfl <;> decide) (by rcases ht with rfl | rfl <;> decide)
  refine F.keep g (lt_of_block hg) ?_ d.1 d.2.1 d.2.2.1 d.2.2.2
  rintro rfl
  rw [hl] at hg
  have := cells_ty hg
  rcases ht with rfl | rfl <;> exact absurd this (by decide)
theorem Keeps.of_fr {w w' : World} {n₀ p bs bn : Nat} {pv pv' : Value} {size : Int} {G0 G1 : Int → List Int} {L : List (Int × List Int)} {left : Int} {dead : Bool} (F : Fr p bs bn w pv w' pv') (D : Dev w n₀ p bs bn pv size G0 G1 L left dead) : Keeps w w' := fun g cs t ht hg => by
  have d := D.apart hg (by rcases ht with rfl | rfl <;> decide) (by rcases ht with rfl | rfl <;> decide)
  exact (F.keep g (lt_of_block hg) d.1 d.2.1 d.2.2.1 d.2.2.2).1
theorem RB.keep {w w' : World} {v : Value} {ys : List Int} (h : RB w v ys) (k : Keeps w w') : RB w' v ys := by
  obtain ⟨⟨g, o, c, cs, h1, h2, h3, h4, h5⟩, h6, h7, h8⟩ := h
  exact ⟨⟨g, o, c, cs, h1, h2, h3, (k g cs 5 (.inl rfl) h4).trans h4, h5⟩, h6, h7, h8⟩
theorem RB.slb {w : World} {v : Value} {ys : List Int} (h : RB w v ys) : SlB w v ys := by
  obtain ⟨⟨g, o, c, cs, h1, h2, h3, h4, h5⟩, h6, h7, h8⟩ := h
  exact ⟨⟨g, o, c, h1, h2, lt_of_block h4, fun i hi => by rw [cell_of_row _ g _ _ _ _ h4]; exact h5 i hi⟩, h6, h7, h8⟩
theorem RB.isB {w : World} {v : Value} {ys : List Int} (h : RB w v ys) : ∃ a c, v = .slice a ys.length c ∧ IsB w a ys.length c ys := by
  obtain ⟨⟨g, o, c, cs, h1, h2, h3, h4, h5⟩, h6, h7, h8⟩ := h
  exact ⟨_, _, h1, rfl, h2, h3, (fun h => by cases h), h6, fun _ => ⟨g, o, rfl, fun i hi => by rw [cell_of_row _ g _ _ _ _ h4]; exact h5 i hi⟩⟩
theorem RB.of_own {w : World} {n₀ : Nat} {v : Value} {ys : List Int} (h : w.ownsRow n₀ 5 1 v ys.length (ys.map (Value.int .u8))) (hb : ∀ y ∈ ys, 0 ≤ y ∧ y < 256) (y0 : 1 ≤ ys.length) (y1 : ys.length ≤ 60000) : RB w v ys := by
  rcases h.2 with ⟨_, h2⟩ | ⟨g, cap, cur, rfl, hb', hh, hnc, hcm, hcs, htk⟩
  · omega
  · refine ⟨⟨g, 0, cap, cur, rfl, hnc, hcm, hh, fun i hi => ?_⟩, hb, y0, y1⟩
    have := World.ownsRow.cells h (g := g) rfl i (.int .u8 (ys.getD i 0)) (by rw [List.getElem?_map, List.getD_eq_getElem?_getD, List.getElem?_eq_getElem hi]; rfl)
    rw [show (⟨g, 0, none⟩ : Addr).add i = ⟨g, 0 + i, none⟩ by unfold Addr.add; split <;> simp_all, cell_of_row _ g _ _ _ _ hh] at this
    exact this
theorem RB.text {w : World} {g n : Nat} {c : Int} (h : w.heap[g]? = some (.cells (cellsB (List.replicate n c)) 5 (0, 0))) (hc : 0 ≤ c ∧ c < 256) (h0 : 1 ≤ n) (h1 : n ≤ 60000) : RB w (.slice (some ⟨g, 0, none⟩) n n) (List.replicate n c) :=
  ⟨⟨g, 0, n, _, by simp, by simp, by unfold maxLen; omega, h, fun i hi => by
    have hi' : i < n := by simpa using hi
    simp [cellsB, hi']⟩, fun y hy => by obtain ⟨_, rfl⟩ := List.mem_replicate.1 hy; exact hc, by simpa using h0, by simpa using h1⟩
/-- A list of records. -/
structure RL (w : World) (v : Value) (recs : List (List Int)) : Prop where
  at_ : ∃ a c, v = .slice a recs.length c ∧ recs.length ≤ c ∧ c ≤ maxLen ∧ (a = none → c = 0) ∧ (0 < recs.length → ∃ b off cs, a = some ⟨b, off, none⟩ ∧ w.heap[b]? = some (.cells cs 38 (0, 0)) ∧ ∀ (i : Nat) (ys : List Int), recs[i]? = some ys → ∃ x, cs[off + i]? = some x ∧ RB w x ys)
theorem RL.nil (w : World) : RL w (.slice none 0 0) [] := ⟨none, 0, rfl, Nat.le_refl _, Nat.zero_le _, fun _ => rfl, fun h => absurd h (by decide)⟩
theorem RL.keep {w w' : World} {v : Value} {recs : List (List Int)} (h : RL w v recs) (k : Keeps w w') : RL w' v recs := by
  obtain ⟨a, c, h1, h2, h3, h4, h5⟩ := h
  refine ⟨a, c, h1, h2, h3, h4, fun h0 => ?_⟩
  obtain ⟨b, off, cs, h6, h7, h8⟩ := h5 h0
  exact ⟨b, off, cs, h6, (k b cs 38 (.inr rfl) h7).trans h7, fun i ys hi => by
    obtain ⟨x, h9, h10⟩ := h8 i ys hi
    exact ⟨x, h9, h10.keep k⟩⟩
theorem RL.sll {w : World} {a : Option Addr} {n c : Nat} {recs : List (List Int)} (h : RL w (.slice a n c) recs) : SlL w a recs ∧ recs.length = n := by
  obtain ⟨a', c', h1, h2, h3, h4, h5⟩ := h
  injection h1 with e1 e2 e3
  subst e1
  refine ⟨⟨fun i ys hi => ?_⟩, e2.symm⟩
  obtain ⟨b, off, cs, h6, h7, h8⟩ := h5 (by have := (List.getElem?_eq_some_iff.1 hi).1; omega)
  obtain ⟨x, h9, h10⟩ := h8 i ys hi
  exact ⟨b, off, x, h6, lt_of_block h7, by rw [cell_of_row _ b _ _ _ _ h7]; exact h9, h10.slb⟩
theorem RL.of_recs {w : World} {n₀ : Nat} {v : Value} {recs : List (List Int)} (h : Recs w n₀ v recs) (hr : ∀ ys ∈ recs, 1 ≤ ys.length ∧ ys.length ≤ 60000 ∧ ∀ y ∈ ys, 0 ≤ y ∧ y < 256) : RL w v recs := by
  obtain ⟨vs, h1, h2⟩ := h
  rcases h1.2 with ⟨rfl, h3⟩ | ⟨g, cap, cur, rfl, hb', hh, hnc, hcm, hcs, htk⟩
  · exact ⟨none, 0, by rw [h3], by omega, Nat.zero_le _, fun _ => rfl, fun h => by omega⟩
  · refine ⟨some ⟨g, 0, none⟩, cap, rfl, hnc, hcm, (fun h => by cases h), fun _ => ⟨g, 0, cur, rfl, hh, fun i ys hi => ?_⟩⟩
    obtain ⟨x, h4, h5, h6⟩ := h2 i ys hi
    have hm := hr ys (List.mem_of_getElem? hi)
    have := World.ownsRow.cells h1 (g := g) rfl i x h4
    rw [show (⟨g, 0, none⟩ : Addr).add i = ⟨g, 0 + i, none⟩ by unfold Addr.add; split <;> simp_all, cell_of_row _ g _ _ _ _ hh] at this
    exact ⟨x, this, RB.of_own h6 hm.2.2 hm.1 hm.2.1⟩
end Go.Proofs.Ytofgphiamllmdab

namespace Go.Proofs.Ytofgphiamllmdab
open Go.RowKit
set_option maxRecDepth 100000
section
variable {w : World}
set_option maxHeartbeats 4000000 in
theorem same_true {v1 v2 : Value} {recs : List (List Int)} (h1 : RL w v1 recs) (h2 : RL w v2 recs) (hm : recs.length ≤ 1000000) : Calls Try.prog 24 #[v1, v2] w fun e w' => e = .returned (.bool true) ∧ Below w.heap.size w w' := by
  obtain ⟨a1, c1, rfl, r1, r2, r3, r4⟩ := h1
  obtain ⟨a2, c2, rfl, s1, s2, s3, s4⟩ := h2
  go_enter Try.func24, Try.ntmps24
  go_wp2
  go_loopw [5] (fun iv wr => ∃ i : Nat, i ≤ recs.length ∧ iv = .int .i64 (i : Int) ∧ Below w.heap.size w wr) (fun iv _ => recs.length - (intOf iv).toNat)
  case atStart => exact ⟨0, by omega, rfl, Below.refl _ _⟩
  case round =>
    obtain ⟨i, hi, rfl, B⟩ := hrel
    obtain ⟨m, hmm⟩ : ∃ m, Hid (recs.length = m) := ⟨_, rfl⟩
    rw [hmm.out] at hi ⊢
    by_cases him : i = m
    · have hlt : ¬ (i : Int) < (m : Int) := by omega
      go_wp2
      go_ret
      exact ⟨rfl, B⟩
    · have hlt : (i : Int) < (m : Int) := by omega
      have him2 : i < recs.length := by have := hmm.out; omega
      obtain ⟨b1, o1, cs1, rfl, k1, k2⟩ := r4 (by omega)
      obtain ⟨b2, o2, cs2, rfl, l1, l2⟩ := s4 (by omega)
      obtain ⟨x1, k3, k4⟩ := k2 i _ (List.getElem?_eq_getElem him2)
      obtain ⟨x2, l3, l4⟩ := l2 i _ (List.getElem?_eq_getElem him2)
      have q1 : wr.cell? ⟨b1, o1 + i, none⟩ = some x1 := (B.cell (p := ⟨b1, o1 + i, none⟩) (lt_of_block k1)).trans (by rw [cell_of_row _ b1 _ _ _ _ k1]; exact k3)
      have q2 : wr.cell? ⟨b2, o2 + i, none⟩ = some x2 := (B.cell (p := ⟨b2, o2 + i, none⟩) (lt_of_block l1)).trans (by rw [cell_of_row _ b2 _ _ _ _ l1]; exact l3)
      obtain ⟨p1, d1, rfl, i1⟩ := (k4.keep (Keeps.of_below B)).isB
      obtain ⟨p2, d2, rfl, i2⟩ := (l4.keep (Keeps.of_below B)).isB
      have t1 : ∀ k, (convert 38 9 (.slice p1 (recs[i]).length d1)).run Try.prog (wr.drewN k) = .ok (.string (strOfNums recs[i])) (wr.drewN k) := fun k => (i1.below (w' := wr.drewN k) ⟨rfl, rfl, rfl, Nat.le_refl _, fun _ _ => rfl⟩).str
      have t2 : ∀ k, (convert 38 9 (.slice p2 (recs[i]).length d2)).run Try.prog (wr.drewN k) = .ok (.string (strOfNums recs[i])) (wr.drewN k) := fun k => (i2.below (w' := wr.drewN k) ⟨rfl, rfl, rfl, Nat.le_refl _, fun _ _ => rfl⟩).str
      clear i1 i2 k4 l4 k2 l2 k1 l1 k3 l3 r4 s4
      generalize (recs[i]).length = n at *
      generalize strOfNums recs[i] = st at *
      have hw1 : IntKind.i64.wrap ((i : Int) + 1) = (i : Int) + 1 := by rw [IntKind.wrap_i64]; omega
      go_upto_region 6 with fail
      go_quiet (fail)
      have B2 : Below w.heap.size w (wr.drewN nq) := ⟨B.os, B.tape, B.output, B.size, B.block⟩
      go_wp2
      go_roundw
      case rel => exact ⟨i + 1, by have := hmm.out; omega, by push_cast; rfl, B2⟩
      case measure => simp [intOf]; omega
def pad8 : List Int := [165, 165, 165, 165, 165, 165, 165, 165]
set_option maxHeartbeats 4000000 in
/-- A record in new memory. -/
theorem lent_any {v : Value} {ys : List Int} (h : RB w v ys) : Calls Try.prog 15 #[v] w fun e w' => ∃ a c, e = .returned (.slice a ys.length c) ∧ w'.ownsRow w.heap.size 5 1 (.slice a ys.length c) ys.length (ys.map (Value.int .u8)) ∧ Below w.heap.size w w' := by
  obtain ⟨⟨gb, go, cc, cs, rfl, h2, h3, h4, h5⟩, hby, y0, y1⟩ := h
  obtain ⟨i0, hi, hz0, hz1, hz2⟩ := info_parts Try.info5
  obtain ⟨n, hn⟩ : ∃ n, Hid (ys.length = n) := ⟨_, rfl⟩
  have n0 : 1 ≤ n := by have := hn.out; omega
  have n1 : n ≤ 60000 := by have := hn.out; omega
  have hw8 : IntKind.i64.wrap ((n : Int) + 8) = ((n + 8 : Nat) : Int) := by rw [IntKind.wrap_i64]; omega
  rw [hn.out] at h2 ⊢
  go_enter Try.func15, Try.ntmps15
  go_wp2_with (at_make; refine wpList_make_own _ rfl _ _ 38 rfl w.heap.size 5 i0 (.int .u8 0) 1 Try.underlying38 hi hz0 hz1 _ _ _ (n + 8) rfl rfl (by omega) (by rw [hz2]; omega) (by unfold maxLen; omega) (Nat.le_refl _) ?_)
  intro w1 O1 G1
  have B1 : Below w.heap.size w w1 := ⟨G1.os, G1.tape, G1.output, G1.size, fun i hi => G1.block i hi (by simp)⟩
  have h41 := (B1.block gb (lt_of_block h4)).trans h4
  have hc1 : ∀ i v, (ys.map (Value.int .u8))[i]? = some v → w1.cell? ((⟨gb, go, none⟩ : Addr).add i) = some v := by
    intro i v hv
    have hi : i < ys.length := by
      have := (List.getElem?_eq_some_iff.1 hv).1
      simpa using this
    have hadd : (⟨gb, go, none⟩ : Addr).add i = ⟨gb, go + i, none⟩ := by unfold Addr.add; split <;> simp_all
    rw [hadd, cell_of_row _ gb _ _ _ _ h41, h5 i hi]
    rw [List.getElem?_map, List.getElem?_eq_getElem hi] at hv
    rw [List.getD_eq_getElem?_getD, List.getElem?_eq_getElem hi]
    simpa using hv
  go_wp2_with (at_builtin; refine wpList_append_own _ rfl _ _ 38 rfl w.heap.size 5 i0 (.int .u8 0) 1 1 Try.underlying38 hi hz0 hz1 hz2 rfl (by decide) _ _ _ rfl O1 ⟨gb, go, none⟩ n cc (ys.map (Value.int .u8)) rfl (by rw [List.length_map, hn.out, Nat.mul_one]) hc1 (by intro v hv; obtain ⟨x, _, rfl⟩ := List.mem_map.1 hv; rfl) (by unfold maxLen; omega) (by omega) B1.size ?_)
  intro v2 w2 O2 G2 _
  obtain ⟨g2, c2, rfl⟩ := own_pos O2 (by omega)
  have B2 := below_grown B1 O1 (Nat.le_refl _) (Nat.le_refl _) G2
  clear O1 G1 G2 hc1 h41 B1
  have A3 := heap_alloc_new w2 (.cells (pad8.map (Value.int .u8)).toArray 5)
  have O3 := own_alloc O2 (.cells (pad8.map (Value.int .u8)).toArray 5)
  have B3 := below_size B2 (Nat.le_refl _) (box_below w2 (.cells (pad8.map (Value.int .u8)).toArray 5))
  have hc3 : ∀ i v, (pad8.map (Value.int .u8))[i]? = some v → (w2.alloc (.cells (pad8.map (Value.int .u8)).toArray 5)).cell? ((⟨w2.heap.size, 0, none⟩ : Addr).add i) = some v := by
    intro i v hv
    have hadd : (⟨w2.heap.size, 0, none⟩ : Addr).add i = ⟨w2.heap.size, i, none⟩ := by unfold Addr.add; split <;> simp_all
    rw [hadd, cell_of_row _ _ i _ _ _ A3]
    simpa using hv
  go_wp2_with (at_builtin; refine wpList_append_own _ rfl _ _ 38 rfl w.heap.size 5 i0 (.int .u8 0) 1 1 Try.underlying38 hi hz0 hz1 hz2 rfl (by decide) _ _ _ rfl O3 ⟨w2.heap.size, 0, none⟩ 8 8 (pad8.map (Value.int .u8)) rfl rfl hc3 (by intro v hv; obtain ⟨x, _, rfl⟩ := List.mem_map.1 hv; rfl) (by unfold maxLen; omega) (by omega) B3.size ?_)
  intro v4 w4 O4 G4 _
  obtain ⟨g4, c4, rfl⟩ := own_pos O4 (by omega)
  have B4 := below_grown B3 O3 (Nat.le_refl _) (Nat.le_refl _) G4
  clear O2 O3 G4 hc3 A3 B2 B3
  rw [← List.map_append] at O4
  have O5 := O4
  rcases O4.2 with ⟨h9, _⟩ | ⟨g, cap, cur, he, hb', hh, hnc, hcm, hcs, htk⟩
  · cases h9
  injection he with he1 he2 he3
  injection he1 with he4
  injection he4 with he5 _ _
  subst he5 he3
  go_wp2
  go_ret
  refine ⟨some ⟨g4, 0, none⟩, c4, rfl, ⟨by rw [List.length_map, hn.out, Nat.mul_one], .inr ⟨g4, c4, cur, rfl, hb', hh, by omega, hcm, hcs, ?_⟩⟩, B4⟩
  have := congrArg (List.take n) htk
  rw [List.take_take, List.map_append, List.take_left' (by rw [List.length_map, hn.out])] at this
  rw [← this]
  congr 1
  omega
theorem one_cell {w : World} {x : Value} {t : Nat} : ∀ i v, ([x] : List Value)[i]? = some v → (w.alloc (.cells #[x] t)).cell? ((⟨w.heap.size, 0, none⟩ : Addr).add i) = some v := by
  intro i v hv
  have hi0 : i = 0 := by
    rcases Nat.eq_zero_or_pos i with h | h
    · exact h
    · rw [List.getElem?_eq_none (show 1 ≤ i from h)] at hv; cases hv
  subst hi0
  have : (⟨w.heap.size, 0, none⟩ : Addr).add 0 = ⟨w.heap.size, 0, none⟩ := by unfold Addr.add; split <;> simp_all
  rw [this, cell_of_row _ _ 0 _ _ _ (heap_alloc_new w _)]
  simpa using hv
set_option maxHeartbeats 4000000 in
/-- Records in new memory. -/
theorem lents_any {v : Value} {recs : List (List Int)} (h : RL w v recs) (hm : recs.length ≤ 100000) : Calls Try.prog 21 #[v] w fun e w' => ∃ v', e = .returned v' ∧ Recs w' w.heap.size v' recs ∧ Below w.heap.size w w' := by
  obtain ⟨a1, c1, rfl, r1, r2, r3, r4⟩ := h
  obtain ⟨i0, hi, hz0, hz1, hz2⟩ := info_parts Try.info38
  go_enter Try.func21, Try.ntmps21
  go_wp2
  go_loopw [3, 4] (fun ov iv wr => ∃ i : Nat, i ≤ recs.length ∧ iv = .int .i64 (i : Int) ∧ Recs wr w.heap.size ov (recs.take i) ∧ Below w.heap.size w wr) (fun _ iv _ => recs.length - (intOf iv).toNat)
  case atStart => exact ⟨0, by omega, rfl, Recs.nil _ _, Below.refl _ _⟩
  case round =>
    obtain ⟨i, hi', rfl, RC, B⟩ := hrel
    obtain ⟨m, hmm⟩ : ∃ m, Hid (recs.length = m) := ⟨_, rfl⟩
    have hm' : m ≤ 100000 := by have := hmm.out; omega
    by_cases him : i = m
    · have et : recs.take i = recs := List.take_of_length_le (by have := hmm.out; omega)
      rw [et] at RC
      rw [hmm.out]
      have hlt : ¬ (i : Int) < (m : Int) := by omega
      go_wp2
      go_ret
      exact ⟨_, rfl, RC, B⟩
    · have hi2 : i < m := by have := hmm.out; omega
      have him2 : i < recs.length := by have := hmm.out; omega
      rw [hmm.out]
      have hlt : (i : Int) < (m : Int) := by omega
      obtain ⟨b1, o1, cs1, rfl, k1, k2⟩ := r4 (by omega)
      obtain ⟨x1, k3, k4⟩ := k2 i _ (List.getElem?_eq_getElem him2)
      have q1 : wr.cell? ⟨b1, o1 + i, none⟩ = some x1 := (B.cell (p := ⟨b1, o1 + i, none⟩) (lt_of_block k1)).trans (by rw [cell_of_row _ b1 _ _ _ _ k1]; exact k3)
      have k5 := k4.keep (Keeps.of_below B)
      have y0 := k5.y0
      have et : recs.take (i + 1) = recs.take i ++ [recs[i]] := by rw [List.take_add_one, List.getElem?_eq_getElem him2]; rfl
      have el : (recs.take i).length = i := by rw [List.length_take]; omega
      clear k1 k2 k3 k4 r4
      generalize recs[i] = ys at *
      have hw1 : IntKind.i64.wrap ((i : Int) + 1) = (i : Int) + 1 := by rw [IntKind.wrap_i64]; omega
      go_wp2_with fail
      refine (lent_any k5).mono ?_
      rintro e w2 ⟨va, vc, rfl, O, B2⟩
      have B3 := Below.trans B (below_size (Below.refl _ _) B.size B2)
      have RC2 := RC.below B2
      have O' := own_mono O B.size
      clear RC O q1 k5
      obtain ⟨vs, O1, O2⟩ := RC2
      rw [el] at O1
      have O1e := own_alloc O1 (.cells #[.slice va ys.length vc] 38)
      have Oe := own_alloc O' (.cells #[.slice va ys.length vc] 38)
      have O2e : ∀ (i' : Nat) (zs : List Int), (recs.take i)[i']? = some zs → ∃ x, vs[i']? = some x ∧ 0 < zs.length ∧ (w2.alloc (.cells #[.slice va ys.length vc] 38)).ownsRow w.heap.size 5 1 x zs.length (zs.map (Value.int .u8)) := fun i' zs h => by
        obtain ⟨x, h1, h2, h3⟩ := O2 i' zs h
        exact ⟨x, h1, h2, own_alloc h3 _⟩
      have B4 := below_size B3 (Nat.le_refl _) (box_below w2 (.cells #[.slice va ys.length vc] 38))
      go_wp2_with (at_builtin; refine wpList_append_own _ rfl _ _ 44 rfl w.heap.size 38 i0 (.slice none 0 0) 1 24 Try.underlying44 hi hz0 hz1 hz2 rfl (by decide) _ _ _ rfl O1e ⟨w2.heap.size, 0, none⟩ 1 1 [.slice va ys.length vc] rfl rfl one_cell (by simp [Value.oneCell']) (by unfold maxLen; omega) (by omega) B4.size ?_)
      intro v' wf O6 G6 _
      have B6 := below_grown B4 O1e (Nat.le_refl _) (Nat.le_refl _) G6
      have RC6 := Recs.snoc (by rw [el]; exact O1e) O2e Oe y0 (by rw [el]; exact O6) G6
      rw [← et] at RC6
      go_wp2
      go_roundw
      case rel => exact ⟨i + 1, by omega, by push_cast; rfl, RC6, B6⟩
      case measure => simp [intOf]; have := hmm.out; omega
def someL (n : Nat) (c : Int) (r : Nat) : List (List Int) := (List.range r).map fun i => List.replicate (n + 40 * i) c
set_option maxHeartbeats 4000000 in
theorem some_any (w : World) (r n : Nat) (c : Int) (hr : r ≤ 100) (hn0 : 1 ≤ n) (hn : n ≤ 1000) : Calls Try.prog 20 #[.int .i64 (r : Int), .int .i64 (n : Int), .int .u8 c] w fun e w' => ∃ v', e = .returned v' ∧ Recs w' w.heap.size v' (someL n c r) ∧ Below w.heap.size w w' := by
  obtain ⟨i0, hi, hz0, hz1, hz2⟩ := info_parts Try.info38
  go_enter Try.func20, Try.ntmps20
  go_wp2
  go_loopw [7, 8] (fun ov iv wr => ∃ i : Nat, i ≤ r ∧ iv = .int .i64 (i : Int) ∧ Recs wr w.heap.size ov (someL n c i) ∧ Below w.heap.size w wr) (fun _ iv _ => r - (intOf iv).toNat)
  case atStart => exact ⟨0, by omega, rfl, Recs.nil _ _, Below.refl _ _⟩
  case round =>
    obtain ⟨i, hi', rfl, RC, B⟩ := hrel
    by_cases him : i = r
    · subst him
      have hlt : ¬ (i : Int) < (i : Int) := by omega
      go_wp2
      go_ret
      exact ⟨_, rfl, RC, B⟩
    · have hlt : (i : Int) < (r : Int) := by omega
      have et : someL n c (i + 1) = someL n c i ++ [List.replicate (n + 40 * i) c] := by unfold someL; rw [List.range_succ, List.map_append]; rfl
      have el : (someL n c i).length = i := by simp [someL]
      have hw1 : IntKind.i64.wrap ((i : Int) + 1) = (i : Int) + 1 := by rw [IntKind.wrap_i64]; omega
      have hw2 : IntKind.i64.wrap (40 * (i : Int)) = 40 * (i : Int) := by rw [IntKind.wrap_i64]; omega
      have hw3 : IntKind.i64.wrap ((n : Int) + 40 * (i : Int)) = ((n + 40 * i : Nat) : Int) := by rw [IntKind.wrap_i64]; omega
      obtain ⟨k, hk⟩ : ∃ k, Hid (n + 40 * i = k) := ⟨_, rfl⟩
      have hk0 : 1 ≤ k := by have := hk.out; omega
      have hk1 : k ≤ 10000 := by have := hk.out; omega
      rw [hk.out] at et hw3
      go_wp2_with fail
      refine (text_any wr k c (by omega)).mono ?_
      rintro e w2 ⟨rfl, T, G2⟩
      have B2 : Below wr.heap.size wr w2 := ⟨G2.os, G2.tape, G2.output, G2.size, fun i hi => G2.block i hi (by simp)⟩
      have B3 := Below.trans B (below_size (Below.refl _ _) B.size B2)
      have RC2 := RC.below B2
      have O' : w2.ownsRow w.heap.size 5 1 (.slice (some ⟨wr.heap.size, 0, none⟩) (List.replicate k c).length k) (List.replicate k c).length ((List.replicate k c).map (Value.int .u8)) := by
        rw [List.length_replicate]
        exact ⟨by simp, .inr ⟨wr.heap.size, k, _, rfl, B.size, T, Nat.le_refl _, by unfold maxLen; omega, by simp [cellsB], by simp [cellsB]⟩⟩
      clear RC T G2
      obtain ⟨vs, O1, O2⟩ := RC2
      rw [el] at O1
      have O1e := own_alloc O1 (.cells #[.slice (some ⟨wr.heap.size, 0, none⟩) k k] 38)
      have Oe := own_alloc O' (.cells #[.slice (some ⟨wr.heap.size, 0, none⟩) k k] 38)
      rw [List.length_replicate] at Oe
      have O2e : ∀ (i' : Nat) (zs : List Int), (someL n c i)[i']? = some zs → ∃ x, vs[i']? = some x ∧ 0 < zs.length ∧ (w2.alloc (.cells #[.slice (some ⟨wr.heap.size, 0, none⟩) k k] 38)).ownsRow w.heap.size 5 1 x zs.length (zs.map (Value.int .u8)) := fun i' zs h => by
        obtain ⟨x, h1, h2, h3⟩ := O2 i' zs h
        exact ⟨x, h1, h2, own_alloc h3 _⟩
      have B4 := below_size B3 (Nat.le_refl _) (box_below w2 (.cells #[.slice (some ⟨wr.heap.size, 0, none⟩) k k] 38))
      go_wp2_with (at_builtin; refine wpList_append_own _ rfl _ _ 44 rfl w.heap.size 38 i0 (.slice none 0 0) 1 24 Try.underlying44 hi hz0 hz1 hz2 rfl (by decide) _ _ _ rfl O1e ⟨w2.heap.size, 0, none⟩ 1 1 [.slice (some ⟨wr.heap.size, 0, none⟩) k k] rfl rfl one_cell (by simp [Value.oneCell']) (by unfold maxLen; omega) (by omega) B4.size ?_)
      intro v' wf O6 G6 _
      have B6 := below_grown B4 O1e (Nat.le_refl _) (Nat.le_refl _) G6
      have RC6 := Recs.snoc (ys := List.replicate k c) (by rw [el]; exact O1e) O2e (by rw [List.length_replicate]; exact Oe) (by rw [List.length_replicate]; omega) (by rw [el]; exact O6) G6
      rw [← et] at RC6
      go_wp2
      go_roundw
      case rel => exact ⟨i + 1, by omega, by push_cast; rfl, RC6, B6⟩
      case measure => simp [intOf]; omega
end
end Go.Proofs.Ytofgphiamllmdab

namespace Go.Proofs.Ytofgphiamllmdab
open Go.RowKit
set_option maxRecDepth 100000
section
variable {w : World} {n₀ p bs bn : Nat} {pv : Value} {size : Int} {G0 G1 : Int → List Int} {L : List (Int × List Int)} {left : Int} {dead : Bool}
set_option maxRecDepth 100000 in
set_option maxHeartbeats 4000000 in
theorem Crash_long (h : Dev w n₀ p bs bn pv size G0 G1 L left dead) (hI : ∀ i, G1 i = appl G0 L i) (ka : Option Addr) (klen kcap : Nat) (ks : List Bool) (hk : Bools w ka klen ks) (hkl : klen ≤ 9223372036854775807) (hLl : L.length ≤ 1000000000)
    (hkf : ∀ b off, ka = some ⟨b, off, none⟩ → 0 < klen → b ≠ p ∧ b ≠ bs ∧ b ≠ bn ∧ pv.ownBlock ≠ some b) :
    Calls Try.prog 27 #[.pointer (some ⟨p, 0, none⟩), .slice ka klen kcap] w fun e w' => e = .returned (.tuple #[]) ∧ Dev w' n₀ p bs bn (.slice none 0 0) size (appl G0 (keptL L ks)) (appl G0 (keptL L ks)) [] 0 false ∧ Fr p bs bn w pv w' (.slice none 0 0) := by
  obtain ⟨d0, d1, d2, d3, d4, d5, df⟩ := dev_cells h.obj
  obtain ⟨pa, pc, hpv⟩ : ∃ a c, pv = .slice a L.length c := by
    rcases h.pend.2 with ⟨rfl, hn⟩ | ⟨g, cap, cur, rfl, _⟩
    · exact ⟨none, 0, by rw [hn]⟩
    · exact ⟨_, _, rfl⟩
  rw [hpv] at d3 h hkf ⊢
  clear hpv
  go_enter Try.func27, Try.ntmps27
  go_wp2
  go_loopw [15] (fun i wr => ∃ j : Nat, j ≤ L.length ∧ i = .int .i64 (j : Int) ∧ Dev wr n₀ p bs bn (.slice pa L.length pc) size (appl G0 (keptL (L.take j) ks)) G1 L left dead ∧ Fr p bs bn w (.slice pa L.length pc) wr (.slice pa L.length pc)) (fun i _ => L.length - (intOf i).toNat)
  case atStart => exact ⟨0, by omega, rfl, by simpa [keptL, appl] using h, Fr.refl _ _ _ _ _⟩
  case round =>
    obtain ⟨j, hj, rfl, hD, hF⟩ := hrel
    by_cases hjn : j = L.length
    · have hlt : ¬ (j : Int) < (L.length : Int) := by omega
      rw [hjn, List.take_length] at hD
      obtain ⟨GK, hGK⟩ : ∃ GK, appl G0 (keptL L ks) = GK := ⟨_, rfl⟩
      rw [hGK] at hD
      obtain ⟨b0, b1, b2, b3, b4, b5, bf⟩ := dev_cells hD.obj
      clear d0 d1 d2 d3 d4 d5 df
      go_wp2
      go_loopw [45] (fun i wr => ∃ j : Nat, j ≤ L.length ∧ i = .int .i64 (j : Int) ∧ Dev wr n₀ p bs bn (.slice pa L.length pc) size GK (backG GK G1 (L.take j)) L left dead ∧ Fr p bs bn w (.slice pa L.length pc) wr (.slice pa L.length pc)) (fun i _ => L.length - (intOf i).toNat)
      case atStart => exact ⟨0, by omega, rfl, by rw [List.take_zero, backG_nil]; exact hD, hF⟩
      case round =>
        clear hD hF b0 b1 b2 b3 b4 b5 bf
        obtain ⟨j, hj, rfl, hD, hF⟩ := hrel
        by_cases hjn : j = L.length
        · have hlt : ¬ (j : Int) < (L.length : Int) := by omega
          rw [hjn, List.take_length] at hD
          have hD' : Dev wr n₀ p bs bn (.slice pa L.length pc) size GK GK L left dead := by
            rw [← hGK] at hD ⊢
            rw [back_kept ks hI] at hD
            exact hD
          obtain ⟨b0, b1, b2, b3, b4, b5, bf⟩ := dev_cells hD'.obj
          have o1 := devO_pv hD'.obj (.slice none 0 0)
          obtain ⟨x0, x1, x2, x3, x4, x5, xf⟩ := dev_cells o1
          have o2 := devO_left o1 0
          obtain ⟨y0, y1, y2, y3, y4, y5, yf⟩ := dev_cells o2
          have o3 := devO_dead o2 false
          have hN1 := hD'.pbs
          have hN2 := hD'.pbn
          go_wp2
          go_end0
          refine ⟨rfl, ⟨o3, ?_, ?_, World.ownsRow_nil _ _ _ _, by simp, hD'.ne, hD'.fromP, hD'.fromS, hD'.fromN⟩, ?_⟩
          · exact hD'.safe.same ((heap_setCell_other _ _ _ _ hN1.symm).trans ((heap_setCell_other _ _ _ _ hN1.symm).trans (heap_setCell_other _ _ _ _ hN1.symm)))
          · exact hD'.now.same ((heap_setCell_other _ _ _ _ hN2.symm).trans ((heap_setCell_other _ _ _ _ hN2.symm).trans (heap_setCell_other _ _ _ _ hN2.symm)))
          · have f1 := hF.trans (Fr.set (p := p) (bs := bs) (bn := bn) wr (.slice pa L.length pc) 3 (.slice none 0 0))
            have f2 := f1.trans (Fr.set _ _ 4 (.int .i64 0))
            have f3 := f2.trans (Fr.set _ _ 5 (.bool false))
            exact f3.trans ⟨rfl, rfl, rfl, Nat.le_refl _, fun i _ _ _ _ _ => ⟨rfl, by simp [Value.ownBlock]⟩⟩
        · have hlt : (j : Int) < (L.length : Int) := by omega
          obtain ⟨q, hq⟩ : ∃ q, L[j]? = some q := ⟨L[j], List.getElem?_eq_getElem (by omega)⟩
          obtain ⟨g, cap, hpe⟩ : ∃ g cap, Value.slice pa L.length pc = .slice (some ⟨g, 0, none⟩) L.length cap := by
            rcases hD.pend.2 with ⟨e, hn⟩ | ⟨g, cap, cur, e, _⟩
            · omega
            · exact ⟨g, cap, e⟩
          injection hpe with e1 e2 e3
          subst e1 e3
          have hsq := hD.secs q (List.mem_of_getElem? hq)
          have hld := own_load hD.pend hD.secs hq
          have hz := zero59
          have hA := heap_alloc_new wr (.cells (wcells (0, z128)).toArray 107)
          have A2 : ((wr.alloc (.cells (wcells (0, z128)).toArray 107)).setRow wr.heap.size (wcells q).toArray).heap[wr.heap.size]? = some (.cells (wcells q).toArray 107 (0, 0)) := setRow_heap _ _ _ _ _ _ hA
          have hk2 : ∀ i, i < wr.heap.size → ((wr.alloc (.cells (wcells (0, z128)).toArray 107)).setRow wr.heap.size (wcells q).toArray).heap[i]? = wr.heap[i]? := fun i hi => (setRow_other _ _ _ _ (by omega)).trans (Below.heap_alloc _ _ _ hi)
          have hg2 : wr.grownBy ((wr.alloc (.cells (wcells (0, z128)).toArray 107)).setRow wr.heap.size (wcells q).toArray) none := ⟨rfl, rfl, rfl, by simp, fun i hi _ => hk2 i hi⟩
          have D2 := hD.same hk2
          have F2 := hF.trans (Fr.grown (pv := .slice (some ⟨g, 0, none⟩) L.length pc) (p := p) (bs := bs) (bn := bn) hg2 (.inl rfl))
          have hsz1 : (Try.prog.info? 107).map (·.size) = some (wcells q).toArray.size := by rw [List.size_toArray, wcells_len hsq]; kernel_rfl
          have hsz2 : (wcells (0, z128)).toArray.size = (wcells q).toArray.size := by rw [List.size_toArray, List.size_toArray, wcells_len hsq, wcells_len isSec_z]
          have hone : (wcells q).toArray.all (·.oneCell') = true := by simpa using wcells_one q
          obtain ⟨GB, hGB⟩ : ∃ GB, backG GK G1 (L.take j) = GB := ⟨_, rfl⟩
          rw [hGB] at D2
          go_wp2_with (first | (refine wpList_value rfl (run_load59 rfl rfl hld) ?_) | refine wpList_store_row rfl 107 _ _ rfl wr.heap.size _ rfl rfl 107 _ hA hsz1 hsz2 hone ?_)
          generalize (wr.alloc (.cells (wcells (0, z128)).toArray 107)).setRow wr.heap.size (wcells q).toArray = w2 at *
          obtain ⟨_, c1, c2, _⟩ := dev_cells D2.obj
          have hpn : p ≠ bn := D2.pbn
          have hne : bs ≠ bn := D2.ne
          have hxn : wr.heap.size ≠ bn := by have := hD.now.lt; omega
          have hS1 := D2.safe
          have hS2 := D2.now
          have hw1 : IntKind.i64.wrap ((j : Int) + 1) = (j : Int) + 1 := by rw [IntKind.wrap_i64]; omega
          clear hD hF hld hz hA hk2 hg2 hsz1 hsz2 hone
          refine wp_region_inv' (fun A D a w' => ∃ v49 v50 v51 v52 v53 v54 v55 v56 v57 v58 v59 v60 v61 v62, a = ((((((((((((((A.put (some 49) v49).put (some 50) v50).put (some 51) v51).put (some 52) v52).put (some 53) v53).put (some 54) v54).put (some 55) v55).put (some 56) v56).put (some 57) v57).put (some 58) v58).put (some 59) v59).put (some 60) v60).put (some 61) v61).put (some 62) v62) ∧ w2.grownBy w' (some bn) ∧ (D 13 ∨ HasSec w' bn GB) ∧ (D 13 → HasSec w' bn (fun i => if i = q.1 then GK q.1 else GB i)) ∧ (D 0 → v49 = .pointer (some ⟨p, 0, none⟩)) ∧ (D 1 → v50 = .pointer (some ⟨p, 0, none⟩)) ∧ (D 2 → v51 = .pointer (some ⟨p, 2, none⟩)) ∧ (D 3 → v52 = .map (some bn)) ∧ (D 4 → v53 = .pointer (some ⟨wr.heap.size, 0, none⟩)) ∧ (D 5 → v54 = .int .i64 q.1) ∧ (D 6 → v55 = .pointer (some ⟨p, 0, none⟩)) ∧ (D 7 → v56 = .pointer (some ⟨p, 0, none⟩)) ∧ (D 8 → v57 = .pointer (some ⟨p, 1, none⟩)) ∧ (D 9 → v58 = .map (some bs)) ∧ (D 10 → v59 = .pointer (some ⟨wr.heap.size, 0, none⟩)) ∧ (D 11 → v60 = .int .i64 q.1) ∧ (D 12 → v61 = .agg (cellsB (GK q.1))) ∧ (D 13 → v62 = .tuple #[])) (by kernel_rfl) (by kernel_rfl) ?rmono ?rstart ?rstep ?rdone
          case rmono =>
            rintro D D' a w' hD ⟨v49, v50, v51, v52, v53, v54, v55, v56, v57, v58, v59, v60, v61, v62, ha, hB, hN, hM, e0, e1, e2, e3, e4, e5, e6, e7, e8, e9, e10, e11, e12, e13⟩
            exact ⟨v49, v50, v51, v52, v53, v54, v55, v56, v57, v58, v59, v60, v61, v62, ha, hB, hN.imp_left (hD 13).1, fun h => hM ((hD 13).2 h), fun h => e0 ((hD 0).2 h), fun h => e1 ((hD 1).2 h), fun h => e2 ((hD 2).2 h), fun h => e3 ((hD 3).2 h), fun h => e4 ((hD 4).2 h), fun h => e5 ((hD 5).2 h), fun h => e6 ((hD 6).2 h), fun h => e7 ((hD 7).2 h), fun h => e8 ((hD 8).2 h), fun h => e9 ((hD 9).2 h), fun h => e10 ((hD 10).2 h), fun h => e11 ((hD 11).2 h), fun h => e12 ((hD 12).2 h), fun h => e13 ((hD 13).2 h)⟩
          case rstart => exact ⟨u49, u50, u51, u52, u53, u54, u55, u56, u57, u58, u59, u60, u61, u62, by kernel_rfl, ⟨rfl, rfl, rfl, Nat.le_refl _, fun _ _ _ => rfl⟩, .inr ((show HasSec w2 bn GB from hS2).same rfl), fun h => h.elim, fun h => h.elim, fun h => h.elim, fun h => h.elim, fun h => h.elim, fun h => h.elim, fun h => h.elim, fun h => h.elim, fun h => h.elim, fun h => h.elim, fun h => h.elim, fun h => h.elim, fun h => h.elim, fun h => h.elim, fun h => h.elim⟩
          case rstep =>
            intro i o ho D a w' hI hn hcl hd
            obtain ⟨v49, v50, v51, v52, v53, v54, v55, v56, v57, v58, v59, v60, v61, v62, ha, hB, hN, hM, e0, e1, e2, e3, e4, e5, e6, e7, e8, e9, e10, e11, e12, e13⟩ := hI
            match i, ho with
            | 0, ho =>
              cases Option.some.inj ho
              have ev : a.tmps[0]?.getD undef = .pointer (some ⟨p, 0, none⟩) := by rw [ha]; kernel_rfl
              refine wp_value (w' := w') (v := .pointer (some ⟨p, 0, none⟩)) (by simp [execOp, ev, go_sem]) ?_
              exact ⟨(.pointer (some ⟨p, 0, none⟩)), v50, v51, v52, v53, v54, v55, v56, v57, v58, v59, v60, v61, v62, by rw [ha]; kernel_rfl, hB, hN.imp_left .inr, fun h => hM (h.resolve_left (by decide)), fun _ => rfl, fun h => e1 (h.resolve_left (by decide)), fun h => e2 (h.resolve_left (by decide)), fun h => e3 (h.resolve_left (by decide)), fun h => e4 (h.resolve_left (by decide)), fun h => e5 (h.resolve_left (by decide)), fun h => e6 (h.resolve_left (by decide)), fun h => e7 (h.resolve_left (by decide)), fun h => e8 (h.resolve_left (by decide)), fun h => e9 (h.resolve_left (by decide)), fun h => e10 (h.resolve_left (by decide)), fun h => e11 (h.resolve_left (by decide)), fun h => e12 (h.resolve_left (by decide)), fun h => e13 (h.resolve_left (by decide))⟩
            | 1, ho =>
              cases Option.some.inj ho
              have ev : a.tmps[49]?.getD undef = .pointer (some ⟨p, 0, none⟩) := by rw [ha, e0 (hd ⟨0, .data⟩ (by simp) rfl)]; kernel_rfl
              refine wp_value (w' := w') (v := .pointer (some ⟨p, 0, none⟩)) (by simp [execOp, ev, go_sem]) ?_
              exact ⟨v49, (.pointer (some ⟨p, 0, none⟩)), v51, v52, v53, v54, v55, v56, v57, v58, v59, v60, v61, v62, by rw [ha]; kernel_rfl, hB, hN.imp_left .inr, fun h => hM (h.resolve_left (by decide)), fun h => e0 (h.resolve_left (by decide)), fun _ => rfl, fun h => e2 (h.resolve_left (by decide)), fun h => e3 (h.resolve_left (by decide)), fun h => e4 (h.resolve_left (by decide)), fun h => e5 (h.resolve_left (by decide)), fun h => e6 (h.resolve_left (by decide)), fun h => e7 (h.resolve_left (by decide)), fun h => e8 (h.resolve_left (by decide)), fun h => e9 (h.resolve_left (by decide)), fun h => e10 (h.resolve_left (by decide)), fun h => e11 (h.resolve_left (by decide)), fun h => e12 (h.resolve_left (by decide)), fun h => e13 (h.resolve_left (by decide))⟩
            | 2, ho =>
              cases Option.some.inj ho
              have ev : a.tmps[50]?.getD undef = .pointer (some ⟨p, 0, none⟩) := by rw [ha, e1 (hd ⟨1, .data⟩ (by simp) rfl)]; kernel_rfl
              refine wp_value (w' := w') (v := .pointer (some ⟨p, 2, none⟩)) (by simp [execOp, ev, go_sem]) ?_
              exact ⟨v49, v50, (.pointer (some ⟨p, 2, none⟩)), v52, v53, v54, v55, v56, v57, v58, v59, v60, v61, v62, by rw [ha]; kernel_rfl, hB, hN.imp_left .inr, fun h => hM (h.resolve_left (by decide)), fun h => e0 (h.resolve_left (by decide)), fun h => e1 (h.resolve_left (by decide)), fun _ => rfl, fun h => e3 (h.resolve_left (by decide)), fun h => e4 (h.resolve_left (by decide)), fun h => e5 (h.resolve_left (by decide)), fun h => e6 (h.resolve_left (by decide)), fun h => e7 (h.resolve_left (by decide)), fun h => e8 (h.resolve_left (by decide)), fun h => e9 (h.resolve_left (by decide)), fun h => e10 (h.resolve_left (by decide)), fun h => e11 (h.resolve_left (by decide)), fun h => e12 (h.resolve_left (by decide)), fun h => e13 (h.resolve_left (by decide))⟩
            | 3, ho =>
              cases Option.some.inj ho
              have ev : a.tmps[51]?.getD undef = .pointer (some ⟨p, 2, none⟩) := by rw [ha, e2 (hd ⟨2, .data⟩ (by simp) rfl)]; kernel_rfl
              have hc := hB.cell c2 (by simpa using hpn)
              refine wp_value (w' := w') (v := .map (some bn)) (by simp [execOp, ev, go_sem, hc]) ?_
              exact ⟨v49, v50, v51, (.map (some bn)), v53, v54, v55, v56, v57, v58, v59, v60, v61, v62, by rw [ha]; kernel_rfl, hB, hN.imp_left .inr, fun h => hM (h.resolve_left (by decide)), fun h => e0 (h.resolve_left (by decide)), fun h => e1 (h.resolve_left (by decide)), fun h => e2 (h.resolve_left (by decide)), fun _ => rfl, fun h => e4 (h.resolve_left (by decide)), fun h => e5 (h.resolve_left (by decide)), fun h => e6 (h.resolve_left (by decide)), fun h => e7 (h.resolve_left (by decide)), fun h => e8 (h.resolve_left (by decide)), fun h => e9 (h.resolve_left (by decide)), fun h => e10 (h.resolve_left (by decide)), fun h => e11 (h.resolve_left (by decide)), fun h => e12 (h.resolve_left (by decide)), fun h => e13 (h.resolve_left (by decide))⟩
            | 4, ho =>
              cases Option.some.inj ho
              have ev : a.tmps[7]?.getD undef = .pointer (some ⟨wr.heap.size, 0, none⟩) := by rw [ha]; kernel_rfl
              refine wp_value (w' := w') (v := .pointer (some ⟨wr.heap.size, 0, none⟩)) (by simp [execOp, ev, go_sem]) ?_
              exact ⟨v49, v50, v51, v52, (.pointer (some ⟨wr.heap.size, 0, none⟩)), v54, v55, v56, v57, v58, v59, v60, v61, v62, by rw [ha]; kernel_rfl, hB, hN.imp_left .inr, fun h => hM (h.resolve_left (by decide)), fun h => e0 (h.resolve_left (by decide)), fun h => e1 (h.resolve_left (by decide)), fun h => e2 (h.resolve_left (by decide)), fun h => e3 (h.resolve_left (by decide)), fun _ => rfl, fun h => e5 (h.resolve_left (by decide)), fun h => e6 (h.resolve_left (by decide)), fun h => e7 (h.resolve_left (by decide)), fun h => e8 (h.resolve_left (by decide)), fun h => e9 (h.resolve_left (by decide)), fun h => e10 (h.resolve_left (by decide)), fun h => e11 (h.resolve_left (by decide)), fun h => e12 (h.resolve_left (by decide)), fun h => e13 (h.resolve_left (by decide))⟩
            | 5, ho =>
              cases Option.some.inj ho
              have ev : a.tmps[53]?.getD undef = .pointer (some ⟨wr.heap.size, 0, none⟩) := by rw [ha, e4 (hd ⟨4, .data⟩ (by simp) rfl)]; kernel_rfl
              have hc := box_at ((hB.block _ (lt_of_block A2) (by simpa using hxn)).trans A2)
              refine wp_value (w' := w') (v := .int .i64 q.1) (by simp [execOp, ev, go_sem, hc]) ?_
              exact ⟨v49, v50, v51, v52, v53, (.int .i64 q.1), v55, v56, v57, v58, v59, v60, v61, v62, by rw [ha]; kernel_rfl, hB, hN.imp_left .inr, fun h => hM (h.resolve_left (by decide)), fun h => e0 (h.resolve_left (by decide)), fun h => e1 (h.resolve_left (by decide)), fun h => e2 (h.resolve_left (by decide)), fun h => e3 (h.resolve_left (by decide)), fun h => e4 (h.resolve_left (by decide)), fun _ => rfl, fun h => e6 (h.resolve_left (by decide)), fun h => e7 (h.resolve_left (by decide)), fun h => e8 (h.resolve_left (by decide)), fun h => e9 (h.resolve_left (by decide)), fun h => e10 (h.resolve_left (by decide)), fun h => e11 (h.resolve_left (by decide)), fun h => e12 (h.resolve_left (by decide)), fun h => e13 (h.resolve_left (by decide))⟩
            | 6, ho =>
              cases Option.some.inj ho
              have ev : a.tmps[0]?.getD undef = .pointer (some ⟨p, 0, none⟩) := by rw [ha]; kernel_rfl
              refine wp_value (w' := w') (v := .pointer (some ⟨p, 0, none⟩)) (by simp [execOp, ev, go_sem]) ?_
              exact ⟨v49, v50, v51, v52, v53, v54, (.pointer (some ⟨p, 0, none⟩)), v56, v57, v58, v59, v60, v61, v62, by rw [ha]; kernel_rfl, hB, hN.imp_left .inr, fun h => hM (h.resolve_left (by decide)), fun h => e0 (h.resolve_left (by decide)), fun h => e1 (h.resolve_left (by decide)), fun h => e2 (h.resolve_left (by decide)), fun h => e3 (h.resolve_left (by decide)), fun h => e4 (h.resolve_left (by decide)), fun h => e5 (h.resolve_left (by decide)), fun _ => rfl, fun h => e7 (h.resolve_left (by decide)), fun h => e8 (h.resolve_left (by decide)), fun h => e9 (h.resolve_left (by decide)), fun h => e10 (h.resolve_left (by decide)), fun h => e11 (h.resolve_left (by decide)), fun h => e12 (h.resolve_left (by decide)), fun h => e13 (h.resolve_left (by decide))⟩
            | 7, ho =>
              cases Option.some.inj ho
              have ev : a.tmps[55]?.getD undef = .pointer (some ⟨p, 0, none⟩) := by rw [ha, e6 (hd ⟨6, .data⟩ (by simp) rfl)]; kernel_rfl
              refine wp_value (w' := w') (v := .pointer (some ⟨p, 0, none⟩)) (by simp [execOp, ev, go_sem]) ?_
              exact ⟨v49, v50, v51, v52, v53, v54, v55, (.pointer (some ⟨p, 0, none⟩)), v57, v58, v59, v60, v61, v62, by rw [ha]; kernel_rfl, hB, hN.imp_left .inr, fun h => hM (h.resolve_left (by decide)), fun h => e0 (h.resolve_left (by decide)), fun h => e1 (h.resolve_left (by decide)), fun h => e2 (h.resolve_left (by decide)), fun h => e3 (h.resolve_left (by decide)), fun h => e4 (h.resolve_left (by decide)), fun h => e5 (h.resolve_left (by decide)), fun h => e6 (h.resolve_left (by decide)), fun _ => rfl, fun h => e8 (h.resolve_left (by decide)), fun h => e9 (h.resolve_left (by decide)), fun h => e10 (h.resolve_left (by decide)), fun h => e11 (h.resolve_left (by decide)), fun h => e12 (h.resolve_left (by decide)), fun h => e13 (h.resolve_left (by decide))⟩
            | 8, ho =>
              cases Option.some.inj ho
              have ev : a.tmps[56]?.getD undef = .pointer (some ⟨p, 0, none⟩) := by rw [ha, e7 (hd ⟨7, .data⟩ (by simp) rfl)]; kernel_rfl
              refine wp_value (w' := w') (v := .pointer (some ⟨p, 1, none⟩)) (by simp [execOp, ev, go_sem]) ?_
              exact ⟨v49, v50, v51, v52, v53, v54, v55, v56, (.pointer (some ⟨p, 1, none⟩)), v58, v59, v60, v61, v62, by rw [ha]; kernel_rfl, hB, hN.imp_left .inr, fun h => hM (h.resolve_left (by decide)), fun h => e0 (h.resolve_left (by decide)), fun h => e1 (h.resolve_left (by decide)), fun h => e2 (h.resolve_left (by decide)), fun h => e3 (h.resolve_left (by decide)), fun h => e4 (h.resolve_left (by decide)), fun h => e5 (h.resolve_left (by decide)), fun h => e6 (h.resolve_left (by decide)), fun h => e7 (h.resolve_left (by decide)), fun _ => rfl, fun h => e9 (h.resolve_left (by decide)), fun h => e10 (h.resolve_left (by decide)), fun h => e11 (h.resolve_left (by decide)), fun h => e12 (h.resolve_left (by decide)), fun h => e13 (h.resolve_left (by decide))⟩
            | 9, ho =>
              cases Option.some.inj ho
              have ev : a.tmps[57]?.getD undef = .pointer (some ⟨p, 1, none⟩) := by rw [ha, e8 (hd ⟨8, .data⟩ (by simp) rfl)]; kernel_rfl
              have hc := hB.cell c1 (by simpa using hpn)
              refine wp_value (w' := w') (v := .map (some bs)) (by simp [execOp, ev, go_sem, hc]) ?_
              exact ⟨v49, v50, v51, v52, v53, v54, v55, v56, v57, (.map (some bs)), v59, v60, v61, v62, by rw [ha]; kernel_rfl, hB, hN.imp_left .inr, fun h => hM (h.resolve_left (by decide)), fun h => e0 (h.resolve_left (by decide)), fun h => e1 (h.resolve_left (by decide)), fun h => e2 (h.resolve_left (by decide)), fun h => e3 (h.resolve_left (by decide)), fun h => e4 (h.resolve_left (by decide)), fun h => e5 (h.resolve_left (by decide)), fun h => e6 (h.resolve_left (by decide)), fun h => e7 (h.resolve_left (by decide)), fun h => e8 (h.resolve_left (by decide)), fun _ => rfl, fun h => e10 (h.resolve_left (by decide)), fun h => e11 (h.resolve_left (by decide)), fun h => e12 (h.resolve_left (by decide)), fun h => e13 (h.resolve_left (by decide))⟩
            | 10, ho =>
              cases Option.some.inj ho
              have ev : a.tmps[7]?.getD undef = .pointer (some ⟨wr.heap.size, 0, none⟩) := by rw [ha]; kernel_rfl
              refine wp_value (w' := w') (v := .pointer (some ⟨wr.heap.size, 0, none⟩)) (by simp [execOp, ev, go_sem]) ?_
              exact ⟨v49, v50, v51, v52, v53, v54, v55, v56, v57, v58, (.pointer (some ⟨wr.heap.size, 0, none⟩)), v60, v61, v62, by rw [ha]; kernel_rfl, hB, hN.imp_left .inr, fun h => hM (h.resolve_left (by decide)), fun h => e0 (h.resolve_left (by decide)), fun h => e1 (h.resolve_left (by decide)), fun h => e2 (h.resolve_left (by decide)), fun h => e3 (h.resolve_left (by decide)), fun h => e4 (h.resolve_left (by decide)), fun h => e5 (h.resolve_left (by decide)), fun h => e6 (h.resolve_left (by decide)), fun h => e7 (h.resolve_left (by decide)), fun h => e8 (h.resolve_left (by decide)), fun h => e9 (h.resolve_left (by decide)), fun _ => rfl, fun h => e11 (h.resolve_left (by decide)), fun h => e12 (h.resolve_left (by decide)), fun h => e13 (h.resolve_left (by decide))⟩
            | 11, ho =>
              cases Option.some.inj ho
              have ev : a.tmps[59]?.getD undef = .pointer (some ⟨wr.heap.size, 0, none⟩) := by rw [ha, e10 (hd ⟨10, .data⟩ (by simp) rfl)]; kernel_rfl
              have hc := box_at ((hB.block _ (lt_of_block A2) (by simpa using hxn)).trans A2)
              refine wp_value (w' := w') (v := .int .i64 q.1) (by simp [execOp, ev, go_sem, hc]) ?_
              exact ⟨v49, v50, v51, v52, v53, v54, v55, v56, v57, v58, v59, (.int .i64 q.1), v61, v62, by rw [ha]; kernel_rfl, hB, hN.imp_left .inr, fun h => hM (h.resolve_left (by decide)), fun h => e0 (h.resolve_left (by decide)), fun h => e1 (h.resolve_left (by decide)), fun h => e2 (h.resolve_left (by decide)), fun h => e3 (h.resolve_left (by decide)), fun h => e4 (h.resolve_left (by decide)), fun h => e5 (h.resolve_left (by decide)), fun h => e6 (h.resolve_left (by decide)), fun h => e7 (h.resolve_left (by decide)), fun h => e8 (h.resolve_left (by decide)), fun h => e9 (h.resolve_left (by decide)), fun h => e10 (h.resolve_left (by decide)), fun _ => rfl, fun h => e12 (h.resolve_left (by decide)), fun h => e13 (h.resolve_left (by decide))⟩
            | 12, ho =>
              cases Option.some.inj ho
              have ev : a.tmps[58]?.getD undef = .map (some bs) := by rw [ha, e9 (hd ⟨9, .data⟩ (by simp) rfl)]; kernel_rfl
              have ev' : a.tmps[60]?.getD undef = .int .i64 q.1 := by rw [ha, e11 (hd ⟨11, .data⟩ (by simp) rfl)]; kernel_rfl
              have hc := (hS1.same (hB.block _ hS1.lt (by simpa using hne))).lookup q.1
              unfold secV at hc
              refine wp_value (w' := w') (v := .agg (cellsB (GK q.1))) (by simp [execOp, ev, ev', go_sem, hc]) ?_
              exact ⟨v49, v50, v51, v52, v53, v54, v55, v56, v57, v58, v59, v60, (.agg (cellsB (GK q.1))), v62, by rw [ha]; kernel_rfl, hB, hN.imp_left .inr, fun h => hM (h.resolve_left (by decide)), fun h => e0 (h.resolve_left (by decide)), fun h => e1 (h.resolve_left (by decide)), fun h => e2 (h.resolve_left (by decide)), fun h => e3 (h.resolve_left (by decide)), fun h => e4 (h.resolve_left (by decide)), fun h => e5 (h.resolve_left (by decide)), fun h => e6 (h.resolve_left (by decide)), fun h => e7 (h.resolve_left (by decide)), fun h => e8 (h.resolve_left (by decide)), fun h => e9 (h.resolve_left (by decide)), fun h => e10 (h.resolve_left (by decide)), fun h => e11 (h.resolve_left (by decide)), fun _ => rfl, fun h => e13 (h.resolve_left (by decide))⟩
            | 13, ho =>
              cases Option.some.inj ho
              have ev : a.tmps[52]?.getD undef = .map (some bn) := by rw [ha, e3 (hd ⟨3, .data⟩ (by simp) rfl)]; kernel_rfl
              have ev' : a.tmps[54]?.getD undef = .int .i64 q.1 := by rw [ha, e5 (hd ⟨5, .data⟩ (by simp) rfl)]; kernel_rfl
              have ev'' : a.tmps[61]?.getD undef = .agg (cellsB (GK q.1)) := by rw [ha, e12 (hd ⟨12, .data⟩ (by simp) rfl)]; kernel_rfl
              refine wp_enter (f := 64) (args := #[.map (some bn), .int .i64 q.1, .agg (cellsB (GK q.1))]) (by simp [execOp, ev, ev', ev'', go_sem]) ?_
              refine (put_any q.1 (hS1.isSec q.1) (hN.resolve_left hn)).mono ?_
              rintro e w6 ⟨rfl, hM8, HG⟩
              refine ⟨_, rfl, ?_⟩
              exact ⟨v49, v50, v51, v52, v53, v54, v55, v56, v57, v58, v59, v60, v61, (.tuple #[]), by rw [ha]; kernel_rfl, World.grownBy.trans hB HG, .inl (.inl rfl), fun _ => hM8, fun h => e0 (h.resolve_left (by decide)), fun h => e1 (h.resolve_left (by decide)), fun h => e2 (h.resolve_left (by decide)), fun h => e3 (h.resolve_left (by decide)), fun h => e4 (h.resolve_left (by decide)), fun h => e5 (h.resolve_left (by decide)), fun h => e6 (h.resolve_left (by decide)), fun h => e7 (h.resolve_left (by decide)), fun h => e8 (h.resolve_left (by decide)), fun h => e9 (h.resolve_left (by decide)), fun h => e10 (h.resolve_left (by decide)), fun h => e11 (h.resolve_left (by decide)), fun h => e12 (h.resolve_left (by decide)), fun _ => rfl⟩
            | i + 14, ho => simp at ho
          case rdone =>
            rintro D a w' ⟨v49, v50, v51, v52, v53, v54, v55, v56, v57, v58, v59, v60, v61, v62, ha, hB, hN, hM, e0, e1, e2, e3, e4, e5, e6, e7, e8, e9, e10, e11, e12, e13⟩ hall
            have hM' := hM (hall 13 (by decide))
            obtain rfl := e0 (hall 0 (by decide))
            obtain rfl := e1 (hall 1 (by decide))
            obtain rfl := e2 (hall 2 (by decide))
            obtain rfl := e3 (hall 3 (by decide))
            obtain rfl := e4 (hall 4 (by decide))
            obtain rfl := e5 (hall 5 (by decide))
            obtain rfl := e6 (hall 6 (by decide))
            obtain rfl := e7 (hall 7 (by decide))
            obtain rfl := e8 (hall 8 (by decide))
            obtain rfl := e9 (hall 9 (by decide))
            obtain rfl := e10 (hall 10 (by decide))
            obtain rfl := e11 (hall 11 (by decide))
            obtain rfl := e12 (hall 12 (by decide))
            obtain rfl := e13 (hall 13 (by decide))
            clear hN hM hall e0 e1 e2 e3 e4 e5 e6 e7 e8 e9 e10 e11 e12 e13
            rw [ha]
            clear ha
            simp only [Act.put, List.setIfInBounds_toArray, List.set_cons_zero, List.set_cons_succ]
            have D3 := D2.bn2 hB hM'
            have F3 := F2.trans (Fr.grown (pv := .slice (some ⟨g, 0, none⟩) L.length pc) (p := p) (bs := bs) (bn := bn) hB (.inr (.inr (.inr rfl))))
            clear hB hM' D2 F2
            go_wp2
            go_roundw
            case rel => exact ⟨j + 1, by omega, rfl, by rw [take_succ_of hq, backG_snoc, hGB]; exact D3, F3⟩
            case measure => simp [intOf]; omega
    · have hlt : (j : Int) < (L.length : Int) := by omega
      obtain ⟨q, hq⟩ : ∃ q, L[j]? = some q := ⟨L[j], List.getElem?_eq_getElem (by omega)⟩
      obtain ⟨g, cap, hpe⟩ : ∃ g cap, Value.slice pa L.length pc = .slice (some ⟨g, 0, none⟩) L.length cap := by
        rcases hD.pend.2 with ⟨e, hn⟩ | ⟨g, cap, cur, e, _⟩
        · omega
        · exact ⟨g, cap, e⟩
      injection hpe with e1 e2 e3
      subst e1 e3
      have hsq := hD.secs q (List.mem_of_getElem? hq)
      have hld := own_load hD.pend hD.secs hq
      have hz := zero59
      have hA := heap_alloc_new wr (.cells (wcells (0, z128)).toArray 107)
      have A2 : ((wr.alloc (.cells (wcells (0, z128)).toArray 107)).setRow wr.heap.size (wcells q).toArray).heap[wr.heap.size]? = some (.cells (wcells q).toArray 107 (0, 0)) := setRow_heap _ _ _ _ _ _ hA
      have hk2 : ∀ i, i < wr.heap.size → ((wr.alloc (.cells (wcells (0, z128)).toArray 107)).setRow wr.heap.size (wcells q).toArray).heap[i]? = wr.heap[i]? := fun i hi => (setRow_other _ _ _ _ (by omega)).trans (Below.heap_alloc _ _ _ hi)
      have hg2 : wr.grownBy ((wr.alloc (.cells (wcells (0, z128)).toArray 107)).setRow wr.heap.size (wcells q).toArray) none := ⟨rfl, rfl, rfl, by simp, fun i hi _ => hk2 i hi⟩
      have D2 := hD.same hk2
      have F2 := hF.trans (Fr.grown (pv := .slice (some ⟨g, 0, none⟩) L.length pc) (p := p) (bs := bs) (bn := bn) hg2 (.inl rfl))
      have hsz1 : (Try.prog.info? 107).map (·.size) = some (wcells q).toArray.size := by rw [List.size_toArray, wcells_len hsq]; kernel_rfl
      have hsz2 : (wcells (0, z128)).toArray.size = (wcells q).toArray.size := by rw [List.size_toArray, List.size_toArray, wcells_len hsq, wcells_len isSec_z]
      have hone : (wcells q).toArray.all (·.oneCell') = true := by simpa using wcells_one q
      by_cases hkj : ks.getD j false = true
      · have hjk : j < klen := by
          rw [← hk.size]
          by_cases hlt : j < ks.length
          · exact hlt
          · simp [List.getD, List.getElem?_eq_none (show ks.length ≤ j by omega)] at hkj
        obtain ⟨kb, koff, rfl, hkc⟩ := hk.cell (by omega)
        obtain ⟨n1, n2, n3, n4⟩ := hkf kb koff rfl (by omega)
        have hkb := block_lt_of_cell (hkc j hjk)
        have kc2 : ((wr.alloc (.cells (wcells (0, z128)).toArray 107)).setRow wr.heap.size (wcells q).toArray).cell? ⟨kb, koff + j, none⟩ = some (.bool true) := by
          rw [← hkj, ← hkc j hjk]
          exact World.cell?_of_block (F2.keep kb hkb n1 n2 n3 n4).1
        have hjk' : (j : Int) < (klen : Int) := by omega
        go_wp2_with (first | (refine wpList_value rfl (run_load59 rfl rfl hld) ?_) | refine wpList_store_row rfl 107 _ _ rfl wr.heap.size _ rfl rfl 107 _ hA hsz1 hsz2 hone ?_)
        generalize (wr.alloc (.cells (wcells (0, z128)).toArray 107)).setRow wr.heap.size (wcells q).toArray = w2 at *
        obtain ⟨GK, hGK⟩ : ∃ GK, appl G0 (keptL (L.take j) ks) = GK := ⟨_, rfl⟩
        rw [hGK] at D2
        obtain ⟨_, c1, c2, _⟩ := dev_cells D2.obj
        have hpn : p ≠ bs := D2.pbs
        have hxn : wr.heap.size ≠ bs := by have := hD.safe.lt; omega
        have hS2 := D2.safe
        have hw1 : IntKind.i64.wrap ((j : Int) + 1) = (j : Int) + 1 := by rw [IntKind.wrap_i64]; omega
        clear hD hF hld hz hA hk2 hg2 hsz1 hsz2 hone kc2
        refine wp_region_inv' (fun A D a w' => ∃ v30 v31 v32 v33 v34 v35 v36 v37 v38, a = (((((((((A.put (some 30) v30).put (some 31) v31).put (some 32) v32).put (some 33) v33).put (some 34) v34).put (some 35) v35).put (some 36) v36).put (some 37) v37).put (some 38) v38) ∧ w2.grownBy w' (some bs) ∧ (D 8 ∨ HasSec w' bs (GK)) ∧ (D 8 → HasSec w' bs (fun i => if i = q.1 then q.2 else (GK) i)) ∧ (D 0 → v30 = .pointer (some ⟨p, 0, none⟩)) ∧ (D 1 → v31 = .pointer (some ⟨p, 0, none⟩)) ∧ (D 2 → v32 = .pointer (some ⟨p, 1, none⟩)) ∧ (D 3 → v33 = .map (some bs)) ∧ (D 4 → v34 = .pointer (some ⟨wr.heap.size, 0, none⟩)) ∧ (D 5 → v35 = .int .i64 q.1) ∧ (D 6 → v36 = .pointer (some ⟨wr.heap.size, 1, none⟩)) ∧ (D 7 → v37 = .agg (cellsB q.2)) ∧ (D 8 → v38 = .tuple #[])) (by kernel_rfl) (by kernel_rfl) ?rmono ?rstart ?rstep ?rdone
        case rmono =>
          rintro D D' a w' hD ⟨v30, v31, v32, v33, v34, v35, v36, v37, v38, ha, hB, hN, hM, e0, e1, e2, e3, e4, e5, e6, e7, e8⟩
          exact ⟨v30, v31, v32, v33, v34, v35, v36, v37, v38, ha, hB, hN.imp_left (hD 8).1, fun h => hM ((hD 8).2 h), fun h => e0 ((hD 0).2 h), fun h => e1 ((hD 1).2 h), fun h => e2 ((hD 2).2 h), fun h => e3 ((hD 3).2 h), fun h => e4 ((hD 4).2 h), fun h => e5 ((hD 5).2 h), fun h => e6 ((hD 6).2 h), fun h => e7 ((hD 7).2 h), fun h => e8 ((hD 8).2 h)⟩
        case rstart => exact ⟨u30, u31, u32, u33, u34, u35, u36, u37, u38, by kernel_rfl, ⟨rfl, rfl, rfl, Nat.le_refl _, fun _ _ _ => rfl⟩, .inr ((show HasSec w2 bs (GK) from hS2).same rfl), fun h => h.elim, fun h => h.elim, fun h => h.elim, fun h => h.elim, fun h => h.elim, fun h => h.elim, fun h => h.elim, fun h => h.elim, fun h => h.elim, fun h => h.elim⟩
        case rstep =>
          intro i o ho D a w' hI hn hcl hd
          obtain ⟨v30, v31, v32, v33, v34, v35, v36, v37, v38, ha, hB, hN, hM, e0, e1, e2, e3, e4, e5, e6, e7, e8⟩ := hI
          match i, ho with
          | 0, ho =>
            cases Option.some.inj ho
            have ev : a.tmps[0]?.getD undef = .pointer (some ⟨p, 0, none⟩) := by rw [ha]; kernel_rfl
            refine wp_value (w' := w') (v := .pointer (some ⟨p, 0, none⟩)) (by simp [execOp, ev, go_sem]) ?_
            exact ⟨(.pointer (some ⟨p, 0, none⟩)), v31, v32, v33, v34, v35, v36, v37, v38, by rw [ha]; kernel_rfl, hB, hN.imp_left .inr, fun h => hM (h.resolve_left (by decide)), fun _ => rfl, fun h => e1 (h.resolve_left (by decide)), fun h => e2 (h.resolve_left (by decide)), fun h => e3 (h.resolve_left (by decide)), fun h => e4 (h.resolve_left (by decide)), fun h => e5 (h.resolve_left (by decide)), fun h => e6 (h.resolve_left (by decide)), fun h => e7 (h.resolve_left (by decide)), fun h => e8 (h.resolve_left (by decide))⟩
          | 1, ho =>
            cases Option.some.inj ho
            have ev : a.tmps[30]?.getD undef = .pointer (some ⟨p, 0, none⟩) := by rw [ha, e0 (hd ⟨0, .data⟩ (by simp) rfl)]; kernel_rfl
            refine wp_value (w' := w') (v := .pointer (some ⟨p, 0, none⟩)) (by simp [execOp, ev, go_sem]) ?_
            exact ⟨v30, (.pointer (some ⟨p, 0, none⟩)), v32, v33, v34, v35, v36, v37, v38, by rw [ha]; kernel_rfl, hB, hN.imp_left .inr, fun h => hM (h.resolve_left (by decide)), fun h => e0 (h.resolve_left (by decide)), fun _ => rfl, fun h => e2 (h.resolve_left (by decide)), fun h => e3 (h.resolve_left (by decide)), fun h => e4 (h.resolve_left (by decide)), fun h => e5 (h.resolve_left (by decide)), fun h => e6 (h.resolve_left (by decide)), fun h => e7 (h.resolve_left (by decide)), fun h => e8 (h.resolve_left (by decide))⟩
          | 2, ho =>
            cases Option.some.inj ho
            have ev : a.tmps[31]?.getD undef = .pointer (some ⟨p, 0, none⟩) := by rw [ha, e1 (hd ⟨1, .data⟩ (by simp) rfl)]; kernel_rfl
            refine wp_value (w' := w') (v := .pointer (some ⟨p, 1, none⟩)) (by simp [execOp, ev, go_sem]) ?_
            exact ⟨v30, v31, (.pointer (some ⟨p, 1, none⟩)), v33, v34, v35, v36, v37, v38, by rw [ha]; kernel_rfl, hB, hN.imp_left .inr, fun h => hM (h.resolve_left (by decide)), fun h => e0 (h.resolve_left (by decide)), fun h => e1 (h.resolve_left (by decide)), fun _ => rfl, fun h => e3 (h.resolve_left (by decide)), fun h => e4 (h.resolve_left (by decide)), fun h => e5 (h.resolve_left (by decide)), fun h => e6 (h.resolve_left (by decide)), fun h => e7 (h.resolve_left (by decide)), fun h => e8 (h.resolve_left (by decide))⟩
          | 3, ho =>
            cases Option.some.inj ho
            have ev : a.tmps[32]?.getD undef = .pointer (some ⟨p, 1, none⟩) := by rw [ha, e2 (hd ⟨2, .data⟩ (by simp) rfl)]; kernel_rfl
            have hc := hB.cell c1 (by simpa using hpn)
            refine wp_value (w' := w') (v := .map (some bs)) (by simp [execOp, ev, go_sem, hc]) ?_
            exact ⟨v30, v31, v32, (.map (some bs)), v34, v35, v36, v37, v38, by rw [ha]; kernel_rfl, hB, hN.imp_left .inr, fun h => hM (h.resolve_left (by decide)), fun h => e0 (h.resolve_left (by decide)), fun h => e1 (h.resolve_left (by decide)), fun h => e2 (h.resolve_left (by decide)), fun _ => rfl, fun h => e4 (h.resolve_left (by decide)), fun h => e5 (h.resolve_left (by decide)), fun h => e6 (h.resolve_left (by decide)), fun h => e7 (h.resolve_left (by decide)), fun h => e8 (h.resolve_left (by decide))⟩
          | 4, ho =>
            cases Option.some.inj ho
            have ev : a.tmps[5]?.getD undef = .pointer (some ⟨wr.heap.size, 0, none⟩) := by rw [ha]; kernel_rfl
            refine wp_value (w' := w') (v := .pointer (some ⟨wr.heap.size, 0, none⟩)) (by simp [execOp, ev, go_sem]) ?_
            exact ⟨v30, v31, v32, v33, (.pointer (some ⟨wr.heap.size, 0, none⟩)), v35, v36, v37, v38, by rw [ha]; kernel_rfl, hB, hN.imp_left .inr, fun h => hM (h.resolve_left (by decide)), fun h => e0 (h.resolve_left (by decide)), fun h => e1 (h.resolve_left (by decide)), fun h => e2 (h.resolve_left (by decide)), fun h => e3 (h.resolve_left (by decide)), fun _ => rfl, fun h => e5 (h.resolve_left (by decide)), fun h => e6 (h.resolve_left (by decide)), fun h => e7 (h.resolve_left (by decide)), fun h => e8 (h.resolve_left (by decide))⟩
          | 5, ho =>
            cases Option.some.inj ho
            have ev : a.tmps[34]?.getD undef = .pointer (some ⟨wr.heap.size, 0, none⟩) := by rw [ha, e4 (hd ⟨4, .data⟩ (by simp) rfl)]; kernel_rfl
            have hc := box_at ((hB.block _ (lt_of_block A2) (by simpa using hxn)).trans A2)
            refine wp_value (w' := w') (v := .int .i64 q.1) (by simp [execOp, ev, go_sem, hc]) ?_
            exact ⟨v30, v31, v32, v33, v34, (.int .i64 q.1), v36, v37, v38, by rw [ha]; kernel_rfl, hB, hN.imp_left .inr, fun h => hM (h.resolve_left (by decide)), fun h => e0 (h.resolve_left (by decide)), fun h => e1 (h.resolve_left (by decide)), fun h => e2 (h.resolve_left (by decide)), fun h => e3 (h.resolve_left (by decide)), fun h => e4 (h.resolve_left (by decide)), fun _ => rfl, fun h => e6 (h.resolve_left (by decide)), fun h => e7 (h.resolve_left (by decide)), fun h => e8 (h.resolve_left (by decide))⟩
          | 6, ho =>
            cases Option.some.inj ho
            have ev : a.tmps[5]?.getD undef = .pointer (some ⟨wr.heap.size, 0, none⟩) := by rw [ha]; kernel_rfl
            refine wp_value (w' := w') (v := .pointer (some ⟨wr.heap.size, 1, none⟩)) (by simp [execOp, ev, go_sem]) ?_
            exact ⟨v30, v31, v32, v33, v34, v35, (.pointer (some ⟨wr.heap.size, 1, none⟩)), v37, v38, by rw [ha]; kernel_rfl, hB, hN.imp_left .inr, fun h => hM (h.resolve_left (by decide)), fun h => e0 (h.resolve_left (by decide)), fun h => e1 (h.resolve_left (by decide)), fun h => e2 (h.resolve_left (by decide)), fun h => e3 (h.resolve_left (by decide)), fun h => e4 (h.resolve_left (by decide)), fun h => e5 (h.resolve_left (by decide)), fun _ => rfl, fun h => e7 (h.resolve_left (by decide)), fun h => e8 (h.resolve_left (by decide))⟩
          | 7, ho =>
            cases Option.some.inj ho
            have ev : a.tmps[36]?.getD undef = .pointer (some ⟨wr.heap.size, 1, none⟩) := by rw [ha, e6 (hd ⟨6, .data⟩ (by simp) rfl)]; kernel_rfl
            refine wp_value (w' := w') (v := .agg (cellsB q.2)) (run_load57x (eval_of ev) rfl (box_load hsq ((hB.block _ (lt_of_block A2) (by simpa using hxn)).trans A2))) ?_
            exact ⟨v30, v31, v32, v33, v34, v35, v36, (.agg (cellsB q.2)), v38, by rw [ha]; kernel_rfl, hB, hN.imp_left .inr, fun h => hM (h.resolve_left (by decide)), fun h => e0 (h.resolve_left (by decide)), fun h => e1 (h.resolve_left (by decide)), fun h => e2 (h.resolve_left (by decide)), fun h => e3 (h.resolve_left (by decide)), fun h => e4 (h.resolve_left (by decide)), fun h => e5 (h.resolve_left (by decide)), fun h => e6 (h.resolve_left (by decide)), fun _ => rfl, fun h => e8 (h.resolve_left (by decide))⟩
          | 8, ho =>
            cases Option.some.inj ho
            have ev : a.tmps[33]?.getD undef = .map (some bs) := by rw [ha, e3 (hd ⟨3, .data⟩ (by simp) rfl)]; kernel_rfl
            have ev' : a.tmps[35]?.getD undef = .int .i64 q.1 := by rw [ha, e5 (hd ⟨5, .data⟩ (by simp) rfl)]; kernel_rfl
            have ev'' : a.tmps[37]?.getD undef = .agg (cellsB q.2) := by rw [ha, e7 (hd ⟨7, .data⟩ (by simp) rfl)]; kernel_rfl
            refine wp_enter (f := 64) (args := #[.map (some bs), .int .i64 q.1, .agg (cellsB q.2)]) (by simp [execOp, ev, ev', ev'', go_sem]) ?_
            refine (put_any q.1 hsq (hN.resolve_left hn)).mono ?_
            rintro e w6 ⟨rfl, hM8, HG⟩
            refine ⟨_, rfl, ?_⟩
            exact ⟨v30, v31, v32, v33, v34, v35, v36, v37, (.tuple #[]), by rw [ha]; kernel_rfl, World.grownBy.trans hB HG, .inl (.inl rfl), fun _ => hM8, fun h => e0 (h.resolve_left (by decide)), fun h => e1 (h.resolve_left (by decide)), fun h => e2 (h.resolve_left (by decide)), fun h => e3 (h.resolve_left (by decide)), fun h => e4 (h.resolve_left (by decide)), fun h => e5 (h.resolve_left (by decide)), fun h => e6 (h.resolve_left (by decide)), fun h => e7 (h.resolve_left (by decide)), fun _ => rfl⟩
          | i + 9, ho => simp at ho
        case rdone =>
          rintro D a w' ⟨v30, v31, v32, v33, v34, v35, v36, v37, v38, ha, hB, hN, hM, e0, e1, e2, e3, e4, e5, e6, e7, e8⟩ hall
          have hM' := hM (hall 8 (by decide))
          obtain rfl := e0 (hall 0 (by decide))
          obtain rfl := e1 (hall 1 (by decide))
          obtain rfl := e2 (hall 2 (by decide))
          obtain rfl := e3 (hall 3 (by decide))
          obtain rfl := e4 (hall 4 (by decide))
          obtain rfl := e5 (hall 5 (by decide))
          obtain rfl := e6 (hall 6 (by decide))
          obtain rfl := e7 (hall 7 (by decide))
          obtain rfl := e8 (hall 8 (by decide))
          clear hN hM hall e0 e1 e2 e3 e4 e5 e6 e7 e8
          rw [ha]
          clear ha
          simp only [Act.put, List.setIfInBounds_toArray, List.set_cons_zero, List.set_cons_succ]
          have D3 := D2.bs2 hB hM'
          have F3 := F2.trans (Fr.grown (pv := .slice (some ⟨g, 0, none⟩) L.length pc) (p := p) (bs := bs) (bn := bn) hB (.inr (.inr (.inl rfl))))
          clear hB hM' D2 F2
          go_wp2
          go_roundw
          case rel => exact ⟨j + 1, by omega, rfl, by rw [take_succ_of hq, keptL_snoc, List.length_take, Nat.min_eq_left hj, if_pos hkj, appl_snoc, hGK]; exact D3, F3⟩
          case measure => simp [intOf]; omega
      · have hkf' : ks.getD j false = false := by simpa using hkj
        have hw1 : IntKind.i64.wrap ((j : Int) + 1) = (j : Int) + 1 := by rw [IntKind.wrap_i64]; omega
        have hnew : Dev ((wr.alloc (.cells (wcells (0, z128)).toArray 107)).setRow wr.heap.size (wcells q).toArray) n₀ p bs bn (.slice (some ⟨g, 0, none⟩) L.length pc) size (appl G0 (keptL (L.take (j + 1)) ks)) G1 L left dead := by
          rw [take_succ_of hq, keptL_snoc, List.length_take, Nat.min_eq_left hj, if_neg hkj, List.append_nil]
          exact D2
        by_cases hjk : j < klen
        · obtain ⟨kb, koff, rfl, hkc⟩ := hk.cell (by omega)
          obtain ⟨n1, n2, n3, n4⟩ := hkf kb koff rfl (by omega)
          have hkb := block_lt_of_cell (hkc j hjk)
          have kc2 : ((wr.alloc (.cells (wcells (0, z128)).toArray 107)).setRow wr.heap.size (wcells q).toArray).cell? ⟨kb, koff + j, none⟩ = some (.bool false) := by
            rw [← hkf', ← hkc j hjk]
            exact World.cell?_of_block (F2.keep kb hkb n1 n2 n3 n4).1
          have hjk' : (j : Int) < (klen : Int) := by omega
          go_wp2_with (first | (refine wpList_value rfl (run_load59 rfl rfl hld) ?_) | refine wpList_store_row rfl 107 _ _ rfl wr.heap.size _ rfl rfl 107 _ hA hsz1 hsz2 hone ?_)
          go_roundw
          case rel => exact ⟨j + 1, by omega, rfl, hnew, F2⟩
          case measure => simp [intOf]; omega
        · have hjk' : ¬ (j : Int) < (klen : Int) := by omega
          go_wp2_with (first | (refine wpList_value rfl (run_load59 rfl rfl hld) ?_) | refine wpList_store_row rfl 107 _ _ rfl wr.heap.size _ rfl rfl 107 _ hA hsz1 hsz2 hone ?_)
          go_roundw
          case rel => exact ⟨j + 1, by omega, rfl, hnew, F2⟩
          case measure => simp [intOf]; omega
set_option maxHeartbeats 1000000 in
theorem fail_any (h : Dev w n₀ p bs bn pv size G0 G1 L left dead) (n : Int) (hn : 0 ≤ n) :
    Calls Try.prog 25 #[.pointer (some ⟨p, 0, none⟩), .int .i64 n] w fun e w' => e = .returned (.tuple #[]) ∧ Dev w' n₀ p bs bn pv size G0 G1 L n dead ∧ Fr p bs bn w pv w' pv := by
  obtain ⟨d0, d1, d2, d3, d4, d5, df⟩ := dev_cells h.obj
  have hO := devO_left h.obj n
  by_cases h0 : n = 0
  · subst h0
    go_enter Try.func25, Try.ntmps25
    go_wp2
    go_end0
    exact ⟨rfl, h.set hO, Fr.set _ _ _ _⟩
  · have h1 : 0 < n := by omega
    go_enter Try.func25, Try.ntmps25
    go_wp2
    go_end0
    exact ⟨rfl, h.set hO, Fr.set _ _ _ _⟩
end
/-- An act. -/
structure ActAt (w : World) (b off : Nat) (kd n k c : Int) (ka : Option Addr) (kl kc : Nat) (ks : List Bool) : Prop where
  c0 : w.cell? ⟨b, off, none⟩ = some (.int .i64 kd)
  c1 : w.cell? ⟨b, off + 1, none⟩ = some (.int .i64 n)
  c2 : w.cell? ⟨b, off + 2, none⟩ = some (.int .i64 k)
  c3 : w.cell? ⟨b, off + 3, none⟩ = some (.int .u8 c)
  c4 : w.cell? ⟨b, off + 4, none⟩ = some (.slice ka kl kc)
  hc : 0 ≤ c ∧ c < 256
  hk : Bools w ka kl ks
  hb : ∀ b off, ka = some ⟨b, off, none⟩ → 0 < kl → b < w.heap.size
  hl : kl ≤ 9223372036854775807
structure ActsR (w : World) (sa : Option Addr) (len : Nat) : Prop where
  at_ : ∀ i, i < len → ∃ b off kd n k c ka kl kc ks, sa = some ⟨b, off, none⟩ ∧ b < w.heap.size ∧ ActAt w b (off + i * 5) kd n k c ka kl kc ks
theorem ActAt.below {w w' : World} {b off : Nat} {kd n k c : Int} {ka : Option Addr} {kl kc : Nat} {ks : List Bool} (h : ActAt w b off kd n k c ka kl kc ks) (hb : b < w.heap.size) (B : Below w.heap.size w w') : ActAt w' b off kd n k c ka kl kc ks :=
  ⟨(B.cell (p := ⟨b, off, none⟩) hb).trans h.c0, (B.cell (p := ⟨b, off + 1, none⟩) hb).trans h.c1, (B.cell (p := ⟨b, off + 2, none⟩) hb).trans h.c2, (B.cell (p := ⟨b, off + 3, none⟩) hb).trans h.c3, (B.cell (p := ⟨b, off + 4, none⟩) hb).trans h.c4, h.hc, ⟨h.hk.size, fun h0 => by
    obtain ⟨b', o', e, hc⟩ := h.hk.cell h0
    exact ⟨b', o', e, fun i hi => (B.cell (p := ⟨b', o' + i, none⟩) (h.hb b' o' e h0)).trans (hc i hi)⟩⟩, fun b' o' e h0 => Nat.lt_of_lt_of_le (h.hb b' o' e h0) B.size, h.hl⟩
theorem load37 {w : World} {b off : Nat} {v0 v1 v2 v3 v4 : Value} (h0 : w.cell? ⟨b, off, none⟩ = some v0) (h1 : w.cell? ⟨b, off + 1, none⟩ = some v1) (h2 : w.cell? ⟨b, off + 2, none⟩ = some v2) (h3 : w.cell? ⟨b, off + 3, none⟩ = some v3) (h4 : w.cell? ⟨b, off + 4, none⟩ = some v4) : (loadVar 37 ⟨b, off, none⟩).run Try.prog w = .ok (.agg #[v0, v1, v2, v3, v4]) w := by
  have hr := run_loadCells_list (P := Try.prog) w ⟨b, off, none⟩ [v0, v1, v2, v3, v4] (fun i v hi => by
    have hadd : (⟨b, off, none⟩ : Addr).add i = ⟨b, off + i, none⟩ := by unfold Addr.add; split <;> simp_all
    rw [hadd]
    match i, hi with
    | 0, hi => simp at hi; subst hi; exact h0
    | 1, hi => simp at hi; subst hi; exact h1
    | 2, hi => simp at hi; subst hi; exact h2
    | 3, hi => simp at hi; subst hi; exact h3
    | 4, hi => simp at hi; subst hi; exact h4
    | _ + 5, hi => simp at hi)
  have hagg : (isAgg 37).run Try.prog w = .ok true w := by simp [isAgg, run_underlying Try.underlying37]
  have hr' : (loadCells ⟨b, off, none⟩ 5).run Try.prog w = .ok #[v0, v1, v2, v3, v4] w := hr
  simp [loadVar, hagg, hr']
end Go.Proofs.Ytofgphiamllmdab

namespace Go.Proofs.Ytofgphiamllmdab
open Go.RowKit
set_option maxRecDepth 100000
theorem Recs.shape {w : World} {n₀ : Nat} {v : Value} {recs : List (List Int)} (h : Recs w n₀ v recs) : ∃ a c, v = .slice a recs.length c := by
  obtain ⟨vs, h1, _⟩ := h
  rcases h1.2 with ⟨rfl, h2⟩ | ⟨g, cap, cur, rfl, _⟩
  · exact ⟨none, 0, by rw [h2]⟩
  · exact ⟨_, _, rfl⟩
theorem RL.shape {w : World} {v : Value} {recs : List (List Int)} (h : RL w v recs) : ∃ a c, v = .slice a recs.length c := by
  obtain ⟨a, c, h1, _⟩ := h.at_
  exact ⟨a, c, h1⟩
theorem fresh_heads {G2 : Int → List Int} (hG : G2 = appl (fun _ => z128) (wsP 0 (z128 ++ headB 1 0 1 1) (List.finRange 2))) : G2 0 = z128 ∧ G2 1 = headB 1 0 1 1 ∧ ∀ i, 2 ≤ i → G2 i = z128 := by
  subst hG
  refine ⟨?_, ?_, fun i hi => ?_⟩
  · rw [appl_write, if_pos (by decide)]; exact ch_two0 isSec_z.len
  · rw [appl_write, if_pos (by decide)]; exact ch_two1 isSec_z.len (headB_sec 1 0 1 1).len
  · rw [appl_write, if_neg (by omega)]
section
variable {w : World} {n₀ p bs bn : Nat}
set_option maxHeartbeats 1000000 in
/-- Open of a device that was formatted just now. -/
theorem open_first {S hs : Nat} (D0 : Dev w n₀ p bs bn (.slice none 0 0) (S : Int) (appl (fun _ => z128) (wsP 0 (z128 ++ headB 1 0 1 1) (List.finRange 2))) (appl (fun _ => z128) (wsP 0 (z128 ++ headB 1 0 1 1) (List.finRange 2))) [] 0 false) (hs0 : 4 ≤ S) (hs1 : S ≤ 4096) (hhs : hs = (S - 2) / 2) :
    Calls Try.prog 42 #[.pointer (some ⟨p, 0, none⟩)] w fun e w' => ∃ lb a c G, e = .returned (.tuple #[.pointer (some ⟨lb, 0, none⟩), .slice a 0 c, .int .i64 0]) ∧ w.heap.size ≤ lb ∧ Live w' n₀ p bs bn lb S hs G 0 2 0 1 1 [] ∧ Fr p bs bn w (.slice none 0 0) w' (.slice none 0 0) := by
  obtain ⟨G2a, G2b, G2c⟩ := fresh_heads (G2 := appl (fun _ => z128) (wsP 0 (z128 ++ headB 1 0 1 1) (List.finRange 2))) rfl
  generalize appl (fun _ => z128) (wsP 0 (z128 ++ headB 1 0 1 1) (List.finRange 2)) = G2 at *
  have S2 : ∀ k, IsSec (G2 k) := fun k => D0.now.isSec k
  have r2 : rdLog (fun k => ch (catS G2 0 S) (2 + 0 * hs + k)) hs 1 (hs + 1) 0 1 1 [] = ([], 0, 1) := by
    unfold rdLog
    rw [rdRec_none (by show ch (catS G2 0 S) (2 + 0 * hs + (0 + 0)) = z128; rw [Nat.zero_mul, ch_cat S2 0 S (2 + 0 + (0 + 0)) (by omega)]; exact G2c _ (by omega))]
  have h2 : newer (rdHead (G2 0)) (rdHead (G2 1)) = some (1, 0, 1, 1) := by rw [G2a, G2b, rdHead_zero, rdHead_head (by decide) (by decide) (by decide) (by decide) (by decide) (by decide) (by decide) (by decide)]; rfl
  refine (open_ok (S := S) (hs := hs) D0 hs0 hs1 hhs (by decide) h2 (by decide) (by decide) (hf := 0) rfl (by decide) (by decide) (by decide) r2 (by decide)).mono ?_
  rintro e w3 ⟨lb, v3, rfl, hlb, L3, RC3, D3, F3⟩
  rw [List.nil_append] at D3
  obtain ⟨a, c, rfl⟩ := RC3.shape
  exact ⟨lb, a, c, _, rfl, hlb, ⟨D3, L3, Good.fresh (by rw [appl_write, if_pos (by decide)]; exact ch_one (headB_sec _ _ _ _).len) (by rw [appl_write, if_neg (by decide)]; exact G2b) (fun i hi => by rw [appl_write, if_neg (by omega)]; exact G2c i (by omega)), by have := D0.base; omega, by decide, by decide⟩, F3⟩
end
def storyO (p : Nat) (sv mv : Value) : Obj := .cells #[.pointer (some ⟨p, 0, none⟩), sv, mv] 68 (0, 0)
theorem story_cells {w : World} {b p : Nat} {sv mv : Value} (h : w.heap[b]? = some (storyO p sv mv)) : w.cell? ⟨b, 0, none⟩ = some (.pointer (some ⟨p, 0, none⟩)) ∧ w.cell? ⟨b, 1, none⟩ = some sv ∧ w.cell? ⟨b, 2, none⟩ = some mv ∧ ∀ i, w.frozen? ⟨b, i, none⟩ = false := by
  unfold storyO at h
  refine ⟨?_, ?_, ?_, fun i => frozen_of_row w b i _ _ h⟩ <;> (rw [cell_of_row w b _ _ _ _ h]; rfl)
theorem story_may {w : World} {b p : Nat} {sv mv : Value} (h : w.heap[b]? = some (storyO p sv mv)) (v : Value) : (w.setCell ⟨b, 2, none⟩ v).heap[b]? = some (storyO p sv v) := by
  unfold storyO at h ⊢
  rw [heap_setCell_same w b 2 _ _ _ h]
  simp
theorem story_sure {w : World} {b p : Nat} {sv mv : Value} (h : w.heap[b]? = some (storyO p sv mv)) (v : Value) : (w.setCell ⟨b, 1, none⟩ v).heap[b]? = some (storyO p v mv) := by
  unfold storyO at h ⊢
  rw [heap_setCell_same w b 1 _ _ _ h]
  simp
/-- What a log's call leaves alone. -/
theorem Fl.blk {w w' : World} {n₀ p bs bn lb : Nat} {pv : Value} {size : Int} {G0 G1 : Int → List Int} {L : List (Int × List Int)} {left : Int} {dead : Bool} {lg : Array Value} (F : Fl lb p bs bn w pv w') (D : Dev w n₀ p bs bn pv size G0 G1 L left dead) (hl : w.heap[lb]? = some (.cells lg 89 (0, 0))) {g t : Nat} {cs : Array Value} (hg : w.heap[g]? = some (.cells cs t (0, 0))) (h1 : t ≠ 104) (h2 : t ≠ 107) (h3 : t ≠ 89) : w'.heap[g]? = some (.cells cs t (0, 0)) := by
  have d := D.apart hg h1 h2
  refine (F.keep g (lt_of_block hg) ?_ d.1 d.2.1 d.2.2.1 d.2.2.2).trans hg
  rintro rfl
  rw [hl] at hg
  exact h3 (cells_ty hg).symm
theorem Fr.blk {w w' : World} {n₀ p bs bn : Nat} {pv pv' : Value} {size : Int} {G0 G1 : Int → List Int} {L : List (Int × List Int)} {left : Int} {dead : Bool} (F : Fr p bs bn w pv w' pv') (D : Dev w n₀ p bs bn pv size G0 G1 L left dead) {g t : Nat} {cs : Array Value} (hg : w.heap[g]? = some (.cells cs t (0, 0))) (h1 : t ≠ 104) (h2 : t ≠ 107) : w'.heap[g]? = some (.cells cs t (0, 0)) := by
  have d := D.apart hg h1 h2
  exact (F.keep g (lt_of_block hg) d.1 d.2.1 d.2.2.1 d.2.2.2).1.trans hg
theorem Fl.belowD {w w' : World} {n₀ p bs bn lb : Nat} {size : Int} {G0 G1 : Int → List Int} {L : List (Int × List Int)} {left : Int} {dead : Bool} (F : Fl lb p bs bn w (.slice none 0 0) w') (D : Dev w n₀ p bs bn (.slice none 0 0) size G0 G1 L left dead) (hl : n₀ ≤ lb) : Below n₀ w w' :=
  ⟨F.os, F.tape, F.output, F.size, fun i hi => F.keep i (Nat.lt_of_lt_of_le hi D.base) (by omega) (by have := D.fromP; omega) (by have := D.fromS; omega) (by have := D.fromN; omega) (by simp [Value.ownBlock])⟩
structure Tale (w0 : World) (N : Nat) (w : World) (p bs bn lb S hs sb : Nat) (i : Nat) (rs : List (Int × List Int)) (sv mv : Value) : Prop where
  L : ∃ G left life hf first since, Live w N p bs bn lb S hs G left life hf first since rs ∧ life ≤ 2 + (i : Int) ∧ first + (rs.length : Int) ≤ 1 + 10 * (i : Int)
  st : w.heap[sb]? = some (storyO p sv mv)
  B : Below N w0 w
  sb0 : N ≤ sb
theorem Live.set {w : World} {n₀ p bs bn lb S hs : Nat} {G : Int → List Int} {left life : Int} {hf : Nat} {first since : Int} {rs : List (Int × List Int)} (h : Live w n₀ p bs bn lb S hs G left life hf first since rs) {b j t : Nat} {c : Array Value} {x : Value} (hb : w.heap[b]? = some (.cells c t (0, 0))) (h1 : t ≠ 104) (h2 : t ≠ 107) (h3 : t ≠ 89) : Live (w.setCell ⟨b, j, none⟩ x) n₀ p bs bn lb S hs G left life hf first since rs := by
  have d := h.D.apart hb h1 h2
  have hl : lb ≠ b := by
    rintro rfl
    have e := h.L
    rw [hb] at e
    exact h3 (cells_ty e)
  exact ⟨h.D.but (But.refl b w).set d, (heap_setCell_other _ _ _ _ hl).trans h.L, h.g, h.lb0, h.lf0, h.lf1⟩
theorem below_set {N : Nat} {w w' : World} (B : Below N w w') {b j : Nat} {x : Value} (hb : N ≤ b) : Below N w (w'.setCell ⟨b, j, none⟩ x) :=
  ⟨B.os, B.tape, B.output, by have := B.size; simpa [World.setCell] using this, fun i hi => (heap_setCell_other _ _ _ _ (show i ≠ b by omega)).trans (B.block i hi)⟩
theorem Tale.mayS {w0 : World} {N : Nat} {w : World} {p bs bn lb S hs sb i i' : Nat} {rs : List (Int × List Int)} {sv mv : Value} (h : Tale w0 N w p bs bn lb S hs sb i rs sv mv) (R : RL w sv (rs.map (·.2))) (v : Value) (hi : i ≤ i') : Tale w0 N (w.setCell ⟨sb, 2, none⟩ v) p bs bn lb S hs sb i' rs sv v ∧ RL (w.setCell ⟨sb, 2, none⟩ v) sv (rs.map (·.2)) := by
  obtain ⟨G, left, life, hf, first, since, V, k1, k2⟩ := h.L
  exact ⟨⟨⟨G, left, life, hf, first, since, V.set h.st (by decide) (by decide) (by decide), by omega, by omega⟩, story_may h.st v, below_set h.B h.sb0, h.sb0⟩, R.keep (Keeps.set h.st (by decide) (by decide))⟩
theorem Tale.sureS {w0 : World} {N : Nat} {w : World} {p bs bn lb S hs sb i i' : Nat} {rs : List (Int × List Int)} {sv mv : Value} (h : Tale w0 N w p bs bn lb S hs sb i rs sv mv) {v : Value} (R : RL w v (rs.map (·.2))) (hi : i ≤ i') : Tale w0 N (w.setCell ⟨sb, 1, none⟩ v) p bs bn lb S hs sb i' rs v mv ∧ RL (w.setCell ⟨sb, 1, none⟩ v) v (rs.map (·.2)) := by
  obtain ⟨G, left, life, hf, first, since, V, k1, k2⟩ := h.L
  exact ⟨⟨⟨G, left, life, hf, first, since, V.set h.st (by decide) (by decide) (by decide), by omega, by omega⟩, story_sure h.st v, below_set h.B h.sb0, h.sb0⟩, R.keep (Keeps.set h.st (by decide) (by decide))⟩
theorem Tale.below {w0 : World} {N : Nat} {w w' : World} {p bs bn lb S hs sb i : Nat} {rs : List (Int × List Int)} {sv mv : Value} (h : Tale w0 N w p bs bn lb S hs sb i rs sv mv) (hN : N ≤ w0.heap.size) (B : Below w.heap.size w w') : Tale w0 N w' p bs bn lb S hs sb i rs sv mv := by
  obtain ⟨G, left, life, hf, first, since, V, k1, k2⟩ := h.L
  exact ⟨⟨G, left, life, hf, first, since, V.below B, k1, k2⟩, (B.block sb (lt_of_block h.st)).trans h.st, below_size h.B hN B, h.sb0⟩
theorem RL.facts {w : World} {v : Value} {recs : List (List Int)} (h : RL w v recs) : ∀ ys ∈ recs, 1 ≤ ys.length ∧ ys.length ≤ 60000 ∧ ∀ y ∈ ys, 0 ≤ y ∧ y < 256 := fun ys hy => by
  obtain ⟨a, c, h1, h2, h3, h4, h5⟩ := h
  obtain ⟨i, hi, rfl⟩ := List.getElem_of_mem hy
  obtain ⟨b, off, cs, _, _, h8⟩ := h5 (by omega)
  obtain ⟨x, _, h10⟩ := h8 i _ (List.getElem?_eq_getElem hi)
  exact ⟨h10.y0, h10.y1, h10.byte⟩
/-- What an act leaves, before its answer is looked at. -/
def After (w : World) (p bs bn S hs sb xb i : Nat) (xo : Obj) (v8 v14 : Value) (wx : World) : Prop :=
  wx.heap[xb]? = some xo ∧
  ((v14 = .int .i64 0 ∧ ∃ lb rs sv a n c, v8 = .pointer (some ⟨lb, 0, none⟩) ∧ Tale w w.heap.size wx p bs bn lb S hs sb (i + 1) rs sv (.slice a n c) ∧ RL wx (.slice a n c) (rs.map (·.2))) ∨
   (v14 = .int .i64 4 ∧ ∃ lb rs sv mv, v8 = .pointer (some ⟨lb, 0, none⟩) ∧ Tale w w.heap.size wx p bs bn lb S hs sb (i + 1) rs sv mv ∧ RL wx sv (rs.map (·.2))) ∨
   (v14 = .int .i64 14 ∧ ∃ rs a n c mv life hf first since, Dying wx w.heap.size p bs bn S hs life hf first since rs ∧ life ≤ 2 + (i : Int) ∧ first + (rs.length : Int) ≤ 1 + 10 * (i : Int) ∧ wx.heap[sb]? = some (storyO p (.slice a n c) mv) ∧ Below w.heap.size w wx ∧ w.heap.size ≤ sb ∧ RL wx (.slice a n c) (rs.map (·.2))))
end Go.Proofs.Ytofgphiamllmdab

namespace Go.Proofs.Ytofgphiamllmdab
open Go.RowKit
set_option maxRecDepth 100000
/-- The cells of a list of records. -/
theorem RL.row {w : World} {ab : Option Addr} {len cap : Nat} {recs : List (List Int)} (h : RL w (.slice ab len cap) recs) : recs.length = len ∧ (ab = none → len = 0 ∧ cap = 0) ∧ ∃ vs : List Value, vs.length = len ∧ (∀ ad, ab = some ad → ∀ i v, vs[i]? = some v → w.cell? (ad.add i) = some v) ∧ (∀ v ∈ vs, v.oneCell' = true) ∧ ∀ (i : Nat) (ys : List Int), recs[i]? = some ys → ∃ x, vs[i]? = some x ∧ RB w x ys := by
  obtain ⟨a', c', h1, h2, h3, h4, h5⟩ := h
  injection h1 with e1 e2 e3
  subst e1 e3
  refine ⟨e2.symm, fun h => ?_, ?_⟩
  · have := h4 h
    exact ⟨by omega, this⟩
  · rcases Nat.eq_zero_or_pos recs.length with h0 | h0
    · exact ⟨[], by simp; omega, by simp, by simp, fun i ys hi => by have := (List.getElem?_eq_some_iff.1 hi).1; omega⟩
    · obtain ⟨b, off, cs, h6, h7, h8⟩ := h5 h0
      refine ⟨(List.range len).map (fun i => cs.getD (off + i) undef), by simp, ?_, ?_, ?_⟩
      · intro ad had i v hv
        have hi : i < len := by
          have := (List.getElem?_eq_some_iff.1 hv).1
          simpa using this
        rw [h6] at had
        cases had
        rw [Addr.add_lit, cell_of_row _ b _ _ _ _ h7]
        obtain ⟨x, h9, _⟩ := h8 i _ (List.getElem?_eq_getElem (by omega))
        rw [List.getElem?_map, List.getElem?_range hi] at hv
        simp only [Option.map_some, Option.some.injEq] at hv
        rw [← hv, h9]
        simp [Array.getD_eq_getD_getElem?, h9]
      · intro v hv
        obtain ⟨i, hi, rfl⟩ := List.mem_map.1 hv
        have hi' : i < len := List.mem_range.1 hi
        obtain ⟨x, h9, ⟨g, o, c, _, rfl, _⟩, _⟩ := h8 i _ (List.getElem?_eq_getElem (by omega))
        simp [Array.getD_eq_getD_getElem?, h9, Value.oneCell']
      · intro i ys hi
        have hi' : i < len := by have := (List.getElem?_eq_some_iff.1 hi).1; omega
        obtain ⟨x, h9, h10⟩ := h8 i ys hi
        exact ⟨x, by rw [List.getElem?_map, List.getElem?_range hi']; simp [Array.getD_eq_getD_getElem?, h9], h10⟩
theorem RL.of_own {w : World} {n₀ : Nat} {v : Value} {recs : List (List Int)} {vs : List Value} {n : Nat} (h : w.ownsRow n₀ 38 1 v n vs) (hn : recs.length = n) (hr : ∀ (i : Nat) (ys : List Int), recs[i]? = some ys → ∃ x, vs[i]? = some x ∧ RB w x ys) : RL w v recs := by
  subst hn
  rcases h.2 with ⟨rfl, h3⟩ | ⟨g, cap, cur, rfl, hb', hh, hnc, hcm, hcs, htk⟩
  · exact ⟨none, 0, by rw [h3], by omega, Nat.zero_le _, fun _ => rfl, fun h => by omega⟩
  · refine ⟨some ⟨g, 0, none⟩, cap, rfl, hnc, hcm, (fun h => by cases h), fun _ => ⟨g, 0, cur, rfl, hh, fun i ys hi => ?_⟩⟩
    obtain ⟨x, h4, h5⟩ := hr i ys hi
    have := World.ownsRow.cells h (g := g) rfl i x h4
    rw [Addr.add_lit, cell_of_row _ g _ _ _ _ hh] at this
    exact ⟨x, this, h5⟩
/-- append of records onto nil, as one step of a region that draws its order. -/
theorem step_app_recs {ops : Array Oper} {o : Oper} {a : Act} {w : World} {K : Act → World → Prop} {Q : Exit → Act → World → Prop} {E : Prop}
    (hg : o.guard = none) (s x : Operand) (hop : o.op = Op.call { callee := Callee.builtin Builtin.append, args := #[s, x], argTypes := #[44, 44] })
    (hs : a.eval s = .slice none 0 0) (ab : Option Addr) (len cap : Nat) (recs : List (List Int)) (hx : a.eval x = .slice ab len cap) (hB : RL w (.slice ab len cap) recs) (hl : len ≤ 1000000)
    (hK : ∀ av cv vs w', w'.ownsRow w.heap.size 38 1 (.slice av len cv) len vs → (∀ (i : Nat) (ys : List Int), recs[i]? = some ys → ∃ x, vs[i]? = some x ∧ RB w x ys) → Below w.heap.size w w' → K (a.put o.dst (.slice av len cv)) w') :
    if Region.wanted o (yielded ops a.tmps) = true then Oper.wp Try.prog o a w K Q else E := by
  obtain ⟨i0, hi, hz0, hz1, hz2⟩ := info_parts Try.info38
  have hw : Region.wanted o (yielded ops a.tmps) = true := by simp [Region.wanted, hg]
  rw [if_pos hw]
  obtain ⟨e1, e2, vs, v1, v2, v3, v4⟩ := hB.row
  cases ab with
  | none =>
    obtain ⟨rfl, rfl⟩ := e2 rfl
    have hv0 : vs = [] := List.eq_nil_of_length_eq_zero v1
    have := hK none 0 vs w (by rw [hv0]; exact World.ownsRow_nil _ _ _ _) v4 (Below.refl _ _)
    unfold Oper.wp
    simp [execOp, hop, resolve, invoke, builtin, hs, hx, Result.andThen, Builtin.append_]
    exact this
  | some ad =>
    obtain ⟨v', w', hrun, r1, r2, _⟩ := run_append_own (P := Try.prog) w w.heap.size 44 o.type 38 i0 (.slice none 0 0) 1 24 Try.underlying44 hi hz0 hz1 hz2 rfl (by decide) (.slice none 0 0) 0 [] (World.ownsRow_nil w _ 38 1) ad len cap vs (by omega) (v2 ad rfl) v3 (by unfold maxLen; omega) (by omega) (Nat.le_refl _)
    rw [List.nil_append, Nat.zero_add] at r1
    have hbel : Below w.heap.size w w' := (Below.refl _ _).grown r2 (Nat.le_refl _) (by simp [Value.ownBlock])
    obtain ⟨av, cv, rfl⟩ : ∃ av cv, v' = .slice av len cv := by
      rcases r1.2 with ⟨rfl, h3⟩ | ⟨g, cap, cur, rfl, _⟩
      · exact ⟨none, 0, by rw [h3]⟩
      · exact ⟨_, _, rfl⟩
    unfold Oper.wp
    simp [execOp, hop, resolve, invoke, builtin, hs, hx, hrun, Result.andThen]
    exact hK av cv vs w' r1 v4 hbel
theorem Keeps.of_but {w w' : World} {b t : Nat} {c : Array Value} (k : But b w w') (hb : w.heap[b]? = some (.cells c t (0, 0))) (h5 : t ≠ 5) (h38 : t ≠ 38) : Keeps w w' := fun g cs t' ht hg => k.block g (lt_of_block hg) (by
  rintro rfl
  rw [hb] at hg
  have := cells_ty hg
  subst this
  rcases ht with h | h
  · exact h5 h
  · exact h38 h)
theorem But.blk {w w' : World} {b t g t' : Nat} {c cs : Array Value} (k : But b w w') (hb : w.heap[b]? = some (.cells c t (0, 0))) (hg : w.heap[g]? = some (.cells cs t' (0, 0))) (h : t ≠ t') : w'.heap[g]? = some (.cells cs t' (0, 0)) := (k.block g (lt_of_block hg) (by
  rintro rfl
  rw [hb] at hg
  exact h (cells_ty hg))).trans hg
theorem Live.but {w w' : World} {n₀ p bs bn lb S hs : Nat} {G : Int → List Int} {left life : Int} {hf : Nat} {first since : Int} {rs : List (Int × List Int)} (h : Live w n₀ p bs bn lb S hs G left life hf first since rs) {b t : Nat} {c : Array Value} (k : But b w w') (hb : w.heap[b]? = some (.cells c t (0, 0))) (h1 : t ≠ 104) (h2 : t ≠ 107) (h3 : t ≠ 89) : Live w' n₀ p bs bn lb S hs G left life hf first since rs :=
  ⟨h.D.but k (h.D.apart hb h1 h2), k.blk hb h.L h3, h.g, h.lb0, h.lf0, h.lf1⟩
theorem But.belowN {w0 w w' : World} {b N : Nat} (k : But b w w') (B : Below N w0 w) (hN : N ≤ w0.heap.size) (hb : N ≤ b) : Below N w0 w' :=
  ⟨k.os.trans B.os, k.tape.trans B.tape, k.output.trans B.output, Nat.le_trans B.size k.size, fun i hi => (k.block i (by have := B.size; omega) (by omega)).trans (B.block i hi)⟩
theorem RL.drew {w : World} {v : Value} {recs : List (List Int)} (h : RL w v recs) : RL w.drew v recs := h.keep (w' := w.drew) (fun _ _ _ _ _ => rfl)
theorem midR {w6 w7 : World} {sb p vn : Nat} {sv mv : Value} {recs : List (List Int)} {av : Option Addr} {cv : Nat} {vs : List Value} (E7 : w7.heap[sb]? = some (storyO p sv mv)) (O7 : w7.ownsRow w6.drew.heap.size 38 1 (.slice av vn cv) vn vs) (q7 : ∀ (i : Nat) (ys : List Int), recs[i]? = some ys → ∃ x, vs[i]? = some x ∧ RB w6.drew x ys) (B7 : Below w6.drew.heap.size w6.drew w7) : But sb w6 (w7.setCell ⟨sb, 2, none⟩ (.slice av vn cv)) ∧ (w7.setCell ⟨sb, 2, none⟩ (.slice av vn cv)).heap[sb]? = some (storyO p sv (.slice av vn cv)) ∧ (w7.setCell ⟨sb, 2, none⟩ (.slice av vn cv)).ownsRow w6.heap.size 38 1 (.slice av vn cv) vn vs ∧ ∀ (i : Nat) (ys : List Int), recs[i]? = some ys → ∃ x, vs[i]? = some x ∧ RB w6 x ys :=
  ⟨((But.refl sb w6).below (⟨B7.os, B7.tape, B7.output, B7.size, B7.block⟩ : Below w6.heap.size w6 w7)).set, story_may E7 _, own_setCell O7 E7 (by decide), fun i ys h => by
    obtain ⟨x, h1, h2⟩ := q7 i ys h
    exact ⟨x, h1, h2.keep (w' := w6) (fun _ _ _ _ _ => rfl)⟩⟩
/-- What the region of append(nil, sure...) leaves. -/
def MidR (w6 : World) (sb p vn : Nat) (sv : Value) (recs : List (List Int)) (wx : World) : Prop := ∃ av cv vs, But sb w6 wx ∧ wx.heap[sb]? = some (storyO p sv (.slice av vn cv)) ∧ wx.ownsRow w6.heap.size 38 1 (.slice av vn cv) vn vs ∧ ∀ (i : Nat) (ys : List Int), recs[i]? = some ys → ∃ x, vs[i]? = some x ∧ RB w6 x ys
end Go.Proofs.Ytofgphiamllmdab

namespace Go.Proofs.Ytofgphiamllmdab
open Go.RowKit Go.Deep

theorem Try.fields37 : ∃ f0 f1 f2 f3 f4, Try.prog.underlying 37 = some (.struct #[f0, f1, f2, f3, f4]) ∧ f0.type = 3 ∧ f0.offset = 0 ∧ f1.type = 3 ∧ f1.offset = 1 ∧ f2.type = 3 ∧ f2.offset = 2 ∧ f3.type = 5 ∧ f3.offset = 3 ∧ f4.type = 35 ∧ f4.offset = 4 := ⟨_, _, _, _, _, Try.underlying37, rfl, rfl, rfl, rfl, rfl, rfl, rfl, rfl, rfl, rfl⟩
theorem Try.cells37 : Try.prog.cellsOf 37 = 5 := by kernel_rfl
theorem Try.cells3 : Try.prog.cellsOf 3 = 1 := by kernel_rfl
theorem Try.cells5 : Try.prog.cellsOf 5 = 1 := by kernel_rfl
theorem Try.cells4 : Try.prog.cellsOf 4 = 1 := by kernel_rfl
theorem Try.cells35 : Try.prog.cellsOf 35 = 1 := by kernel_rfl
theorem lt_of_cellX {w : World} {b o : Nat} {v : Value} (h : w.cell? ⟨b, o, none⟩ = some v) : b < w.heap.size := by
  rcases Nat.lt_or_ge b w.heap.size with hb | hb
  · exact hb
  · simp [World.cell?, Array.getElem?_eq_none hb] at h
theorem wf_u8X {n : Int} (h : (Lit.int .u8 n).wf = true) : 0 ≤ n ∧ n < 256 := by
  have e1 : IntKind.u8.min = 0 := rfl
  have e2 : IntKind.u8.max = 255 := rfl
  simp [Lit.wf] at h
  omega
/-- A slice of bools that came in, of any length. -/
theorem open_boolsX {H : Type} {enc : TypeId × Value → H} {W : World} {cs : List Value} {fuel : Nat} {x : DataW H × List MemPlace}
    (hf : DataW.trod enc Try.prog W 0 (fun _ => true) true fuel 35 cs = some x) :
    ∃ a len cap ks, cs = [.slice a len cap] ∧ Bools W a len ks ∧ (∀ b off, a = some ⟨b, off, none⟩ → 0 < len → b < W.heap.size) ∧ len ≤ 9223372036854775807 := by
  rcases open_bools Try.underlying35 Try.underlying4 Try.cells4 hf with ⟨hcs, _⟩ | ⟨y, len, cap, B, hcs, _, hl, hm, hx, hcell⟩
  · exact ⟨none, 0, 0, [], hcs, ⟨rfl, fun h => absurd h (by decide)⟩, fun b off e h => absurd h (by decide), by decide⟩
  · refine ⟨some y, len, cap, (List.range len).map B, hcs, ⟨by simp, fun h0 => ?_⟩, fun b off e h0 => ?_, by unfold maxLen at hm; omega⟩
    · obtain ⟨b, off, spot⟩ := y
      have hsp : spot = none := by simpa [Addr.add] using World.cell?_spot (hcell 0 (by omega))
      subst hsp
      refine ⟨b, off, rfl, fun i hi => ?_⟩
      have := hcell i (by omega)
      rw [Addr.add_lit] at this
      rw [this]
      simp [List.getD, hi]
    · cases e
      have := hcell 0 (by omega)
      rw [Addr.add_lit] at this
      exact lt_of_cellX this
theorem open_actsX {H : Type} {enc : TypeId × Value → H} {W : World} {a : Option Addr} {len cap fuel : Nat} {d : DataW H} {p : List MemPlace}
    (hf : DataW.trod enc Try.prog W 0 (fun _ => true) true fuel 22 (Value.slice a len cap).cells.toList = some (d, p)) : ActsR W a len := by
  rcases open_slice Try.underlying22 hf with ⟨hcs, _⟩ | ⟨x, len', cap', m, n, D, Pl, hcs, _, hl, hm, hmm, hx, hel⟩
  · simp [Value.cells] at hcs
    obtain ⟨rfl, rfl, rfl⟩ := hcs
    exact ⟨fun i hi => absurd hi (by omega)⟩
  · simp [Value.cells] at hcs
    obtain ⟨rfl, rfl, rfl⟩ := hcs
    simp only [if_true] at hmm
    subst hmm
    obtain ⟨f0, f1, f2, f3, f4, hu, t0, o0, t1, o1, t2, o2, t3, o3, t4, o4⟩ := Try.fields37
    refine ⟨fun i hi => ?_⟩
    obtain ⟨cs', h1, h2⟩ := hel i (by omega)
    rw [Try.cells37] at h1
    obtain ⟨_, hlen, hcell⟩ := World.cells?_some h1
    obtain ⟨xs, k, _, _, _, hxl, hfl⟩ := DataW.trod_struct hu h2
    have g0 := hfl 0 f0 rfl
    have g1 := hfl 1 f1 rfl
    have g2 := hfl 2 f2 rfl
    have g3 := hfl 3 f3 rfl
    have g4 := hfl 4 f4 rfl
    rw [t0, o0, Try.cells3] at g0
    rw [t1, o1, Try.cells3] at g1
    rw [t2, o2, Try.cells3] at g2
    rw [t3, o3, Try.cells5] at g3
    rw [t4, o4, Try.cells35] at g4
    have hxs : xs.length = 5 := hxl
    rw [List.getElem?_eq_getElem (by omega)] at g0 g1 g2 g3 g4
    obtain ⟨n0, e0, _, w0⟩ := DataW.trod_int Try.underlying3 g0
    obtain ⟨n1, e1, _, w1⟩ := DataW.trod_int Try.underlying3 g1
    obtain ⟨n2, e2, _, w2⟩ := DataW.trod_int Try.underlying3 g2
    obtain ⟨n3, e3, _, w3⟩ := DataW.trod_int Try.underlying5 g3
    obtain ⟨ka, kl, kc, ks, e4, B4, b4, l4⟩ := open_boolsX g4
    have get : ∀ (o : Nat) (v : Value), (cs'.drop o).take 1 = [v] → cs'[o]? = some v := by
      intro o v h
      have := congrArg (fun l => l[0]?) h
      simpa [List.getElem?_take, List.getElem?_drop] using this
    have c0 := hcell 0 (by omega)
    have c1 := hcell 1 (by omega)
    have c2 := hcell 2 (by omega)
    have c3 := hcell 3 (by omega)
    have c4 := hcell 4 (by omega)
    rw [add_add] at c0 c1 c2 c3 c4
    rw [get 0 _ e0] at c0
    rw [get 1 _ e1] at c1
    rw [get 2 _ e2] at c2
    rw [get 3 _ e3] at c3
    rw [get 4 _ e4] at c4
    have hz : ∀ j, j < len → ∃ v, W.cell? (x.add (j * 5)) = some v := fun j hj => by
      obtain ⟨cz, hz1, _⟩ := hel j (by omega)
      rw [Try.cells37] at hz1
      obtain ⟨_, hzl, hzc⟩ := World.cells?_some hz1
      have z0 := hzc 0 (by omega)
      rw [add_add, Nat.add_zero, List.getElem?_eq_getElem (by omega)] at z0
      exact ⟨_, z0⟩
    obtain ⟨vz, z0⟩ := hz 0 (by omega)
    obtain ⟨b, off, spot⟩ := x
    have hsp : spot = none := by simpa [Addr.add] using World.cell?_spot z0
    subst hsp
    rw [Addr.add_lit] at c0 c1 c2 c3 c4
    exact ⟨b, off, n0, n1, n2, n3, ka, kl, kc, ks, rfl, lt_of_cellX c0, ⟨c0, by rw [Nat.add_assoc]; exact c1, by rw [Nat.add_assoc]; exact c2, by rw [Nat.add_assoc]; exact c3, by rw [Nat.add_assoc]; exact c4, wf_u8X w3, B4, b4, l4⟩⟩
end Go.Proofs.Ytofgphiamllmdab
