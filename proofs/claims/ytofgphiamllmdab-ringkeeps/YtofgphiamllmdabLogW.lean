/- Log.write of one part. -/
import Derived.Test.YtofgphiamllmdabLog
import Derived.Test.YtofgphiamllmdabWrite
import Derived.Test.YtofgphiamllmdabFlush
namespace Go.Proofs.Ytofgphiamllmdab
open Go.RowKit
set_option maxRecDepth 100000

section
variable {w : World} {n₀ p bs bn : Nat} {pv : Value} {size : Int} {G0 G1 : Int → List Int} {L : List (Int × List Int)} {left : Int} {dead : Bool}
theorem cells_ty {c c' : Array Value} {t t' : Nat} (h : some (Obj.cells c t (0, 0)) = some (Obj.cells c' t' (0, 0))) : t = t' := by
  injection h with h
  injection h
/-- A block of cells of another type is none of a device's. -/
theorem Dev.apart (D : Dev w n₀ p bs bn pv size G0 G1 L left dead) {b t : Nat} {c : Array Value} (h : w.heap[b]? = some (.cells c t (0, 0))) (h1 : t ≠ 104) (h2 : t ≠ 107) : b ≠ p ∧ b ≠ bs ∧ b ≠ bn ∧ pv.ownBlock ≠ some b := by
  refine ⟨?_, ?_, ?_, ?_⟩
  · rintro rfl
    rw [D.obj] at h
    exact h1 (cells_ty h).symm
  · rintro rfl
    obtain ⟨f, ⟨_, _, hh, _⟩, _⟩ := D.safe
    rw [hh] at h
    cases h
  · rintro rfl
    obtain ⟨f, ⟨_, _, hh, _⟩, _⟩ := D.now
    rw [hh] at h
    cases h
  · intro e
    obtain ⟨_, cur, hh⟩ := own_block D.pend e
    rw [hh] at h
    exact h2 (cells_ty h).symm
theorem Fr.cells {w' : World} {pv' : Value} (F : Fr p bs bn w pv w' pv') (D : Dev w n₀ p bs bn pv size G0 G1 L left dead) {b t : Nat} {c : Array Value} (h : w.heap[b]? = some (.cells c t (0, 0))) (h1 : t ≠ 104) (h2 : t ≠ 107) : w'.heap[b]? = some (.cells c t (0, 0)) := by
  obtain ⟨a1, a2, a3, a4⟩ := D.apart h h1 h2
  exact (F.keep b (lt_of_block h) a1 a2 a3 a4).1.trans h
variable {lb : Nat} {life half first since seq hs used : Int} {failed : Bool}
set_option maxHeartbeats 4000000 in
theorem logWrite_ok (D : Dev w n₀ p bs bn pv size G0 G1 L 0 false) (hl : w.heap[lb]? = some (logO p life half first since seq hs used failed)) (hs1 : size ≤ 4096) (at' : Int) (h0 : 0 ≤ at') (sb gb off cap m : Nat) (hsb : w.heap[sb]? = some (.cells #[.slice (some ⟨gb, off, none⟩) (128 * m) cap] 38 (0, 0))) (hm : 128 * m ≤ cap) (hc : cap ≤ maxLen) (hm0 : 0 < m) (hsz : at' + m ≤ size) (xs : List Int) (hxl : xs.length = 128 * m) (hx : Bytes w gb off xs)
    (hg0 : gb < w.heap.size) (hg1 : gb ≠ p) (hg2 : gb ≠ bs) (hg3 : gb ≠ bn) (hg4 : pv.ownBlock ≠ some gb) (hL : L.length ≤ 999990000) :
    Calls Try.prog 54 #[.pointer (some ⟨lb, 0, none⟩), .int .i64 at', .slice (some ⟨sb, 0, none⟩) 1 1] w fun e w' =>
      e = .returned (.int .i64 0) ∧ Dev w' n₀ p bs bn (.slice none 0 0) size (appl G0 (L ++ wsP at' xs (List.finRange m))) (appl G1 (wsP at' xs (List.finRange m))) [] 0 false ∧ Fr p bs bn w pv w' (.slice none 0 0) := by
  have hW := Write_some D hs1 at' h0 gb off cap m hm hc hm0 hsz xs hxl hx hg0 hg1 hg2 hg3 hg4 (by decide) (by decide) hL
  obtain ⟨c0, c1, c2, c3, c4, c5, c6, c7, c8, cf⟩ := log_cells hl
  have q0 : w.cell? ⟨sb, 0, none⟩ = some (.slice (some ⟨gb, off, none⟩) (128 * m) cap) := by rw [cell_of_row _ sb _ _ _ _ hsb]; rfl
  go_enter Try.func54, Try.ntmps54
  go_wp2
  refine wp_loop_rounds 2 ?_
  rw [rounds_succ]
  go_wp2_with fail
  refine hW.mono ?_
  rintro e w1 (⟨rfl, _, _, pv1, D1, F1⟩ | ⟨rfl, j, hj, hd, _⟩)
  · have hl1 : w1.heap[lb]? = some (logO p life half first since seq hs used failed) := F1.cells D hl (by decide) (by decide)
    have em : max 0 ((0 : Int) - ((List.finRange m).length : Int)) = 0 := by omega
    rw [em] at D1
    clear c0 c1 c2 c3 c4 c5 c6 c7 c8 cf q0 hW em
    obtain ⟨c0, c1, c2, c3, c4, c5, c6, c7, c8, cf⟩ := log_cells hl1
    unfold maxLen at hc
    have hd1 : (128 * (m : Int)).tdiv 128 = (m : Int) := by rw [Int.tdiv_eq_ediv_of_nonneg (by omega)]; omega
    have hd2 : 128 * (m : Int) / 128 = (m : Int) := by omega
    have hw1 : IntKind.i64.wrap (m : Int) = (m : Int) := by rw [IntKind.wrap_i64]; omega
    have hw2 : IntKind.i64.wrap (at' + (m : Int)) = at' + (m : Int) := by rw [IntKind.wrap_i64]; omega
    go_wp2_with fail
    rw [rounds_succ]
    go_wp2_with fail
    refine (Flush_some D1 (by rw [List.length_append, wsP_len, List.length_finRange]; omega)).mono ?_
    rintro e w2 ⟨rfl, D2, F2⟩
    have F3 := F1.trans F2
    clear c0 c1 c2 c3 c4 c5 c6 c7 c8 cf
    go_wp2_with fail
    refine (told_other _ 0 (by decide)).mono ?_
    rintro e w3 ⟨rfl, rfl⟩
    go_wp2
    go_ret
    exact ⟨rfl, D2, F3⟩
  · exfalso
    rcases hd with ⟨hd, _⟩ | ⟨_, hd⟩
    · cases hd
    · omega
end
end Go.Proofs.Ytofgphiamllmdab
