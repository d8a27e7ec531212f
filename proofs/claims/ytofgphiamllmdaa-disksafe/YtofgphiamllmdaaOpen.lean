/- Arguments that are slices of acts and of bools, opened. -/
import Derived.Test.YtofgphiamllmdaaMix
import Derived.Deep.Grids
import Derived.ChangeArms
namespace Go.Proofs.Ytofgphiamllmdaa
open Go.RowKit Go.Deep

theorem Try.fields30 : ∃ f0 f1 f2 f3 f4 f5, Try.prog.underlying 30 = some (.struct #[f0, f1, f2, f3, f4, f5]) ∧ f1.type = 3 ∧ f1.offset = 1 ∧ f2.type = 3 ∧ f2.offset = 2 ∧ f3.type = 5 ∧ f3.offset = 3 := ⟨_, _, _, _, _, _, Try.underlying30, rfl, rfl, rfl, rfl, rfl, rfl⟩
theorem Try.cells30 : Try.prog.cellsOf 30 = 6 := by kernel_rfl
theorem Try.cells3 : Try.prog.cellsOf 3 = 1 := by kernel_rfl
theorem Try.cells5 : Try.prog.cellsOf 5 = 1 := by kernel_rfl
theorem Try.cells4 : Try.prog.cellsOf 4 = 1 := by kernel_rfl
theorem Try.bytes4 : Try.prog.bytesOf 4 = 1 := by kernel_rfl

theorem lt_of_cell {w : World} {b o : Nat} {v : Value} (h : w.cell? ⟨b, o, none⟩ = some v) : b < w.heap.size := by
  rcases Nat.lt_or_ge b w.heap.size with hb | hb
  · exact hb
  · simp [World.cell?, Array.getElem?_eq_none hb] at h
theorem wf_i64 {n : Int} (h : (Lit.int .i64 n).wf = true) : -9223372036854775808 ≤ n ∧ n ≤ 9223372036854775807 := by
  have e1 : IntKind.i64.min = -9223372036854775808 := rfl
  have e2 : IntKind.i64.max = 9223372036854775807 := rfl
  simp [Lit.wf] at h
  omega
theorem wf_u8 {n : Int} (h : (Lit.int .u8 n).wf = true) : 0 ≤ n ∧ n < 256 := by
  have e1 : IntKind.u8.min = 0 := rfl
  have e2 : IntKind.u8.max = 255 := rfl
  simp [Lit.wf] at h
  omega
theorem open_acts {H : Type} {enc : TypeId × Value → H} {W : World} {a : Option Addr} {len cap fuel : Nat} {d : DataW H} {p : List MemPlace}
    (hf : DataW.trod enc Try.prog W 0 (fun _ => true) true fuel 22 (Value.slice a len cap).cells.toList = some (d, p)) : ∃ l, l.length = len ∧ Acts W a l := by
  rcases open_slice Try.underlying22 hf with ⟨hcs, _⟩ | ⟨x, len', cap', m, n, D, Pl, hcs, _, hl, hm, hmm, hx, hel⟩
  · simp [Value.cells] at hcs
    obtain ⟨rfl, rfl, rfl⟩ := hcs
    exact ⟨[], rfl, ⟨by simp, by simp⟩⟩
  · simp [Value.cells] at hcs
    obtain ⟨rfl, rfl, rfl⟩ := hcs
    simp only [if_true] at hmm
    subst hmm
    obtain ⟨f0, f1, f2, f3, f4, f5, hu, t1, o1, t2, o2, t3, o3⟩ := Try.fields30
    have each : ∀ i, i < len → ∃ q : Int × Int × Int, (∃ v, W.cell? (x.add (i * 6)) = some v) ∧ (q.1 ≤ 9223372036854775807 ∧ 0 ≤ q.2.2 ∧ q.2.2 < 256) ∧ W.cell? (x.add (i * 6 + 1)) = some (.int .i64 q.1) ∧ W.cell? (x.add (i * 6 + 2)) = some (.int .i64 q.2.1) ∧ W.cell? (x.add (i * 6 + 3)) = some (.int .u8 q.2.2) := by
      intro i hi
      obtain ⟨cs', h1, h2⟩ := hel i (by omega)
      rw [Try.cells30] at h1
      obtain ⟨_, hlen, hcell⟩ := World.cells?_some h1
      obtain ⟨xs, k, _, _, _, hxl, hfl⟩ := DataW.trod_struct hu h2
      have g1 := hfl 1 f1 rfl
      have g2 := hfl 2 f2 rfl
      have g3 := hfl 3 f3 rfl
      rw [t1, o1, Try.cells3] at g1
      rw [t2, o2, Try.cells3] at g2
      rw [t3, o3, Try.cells5] at g3
      have hxs : xs.length = 6 := hxl
      rw [List.getElem?_eq_getElem (by omega)] at g1 g2 g3
      obtain ⟨n1, e1, _, w1⟩ := DataW.trod_int Try.underlying3 g1
      obtain ⟨n2, e2, _, w2⟩ := DataW.trod_int Try.underlying3 g2
      obtain ⟨n3, e3, _, w3⟩ := DataW.trod_int Try.underlying5 g3
      have c1 := hcell 1 (by omega)
      have c2 := hcell 2 (by omega)
      have c3 := hcell 3 (by omega)
      rw [add_add] at c1 c2 c3
      have get : ∀ (o : Nat) (v : Value), (cs'.drop o).take 1 = [v] → cs'[o]? = some v := by
        intro o v h
        have := congrArg (fun l => l[0]?) h
        simpa [List.getElem?_take, List.getElem?_drop] using this
      have c0 := hcell 0 (by omega)
      rw [add_add, Nat.add_zero, List.getElem?_eq_getElem (by omega)] at c0
      have b1 := wf_i64 w1
      have b3 := wf_u8 w3
      refine ⟨(n1, n2, n3), ⟨_, c0⟩, ⟨b1.2, b3.1, b3.2⟩, ?_, ?_, ?_⟩
      · rw [c1, get 1 _ e1]
      · rw [c2, get 2 _ e2]
      · rw [c3, get 3 _ e3]
    obtain ⟨q, hq⟩ := choose_lt each
    refine ⟨(List.range len).map q, by simp, ⟨?_, ?_⟩⟩
    · intro z hz
      obtain ⟨i, hi, rfl⟩ := List.mem_map.1 hz
      exact (hq i (List.mem_range.1 hi)).2.1
    · intro i z hz
      have hi : i < len := by
        have := (List.getElem?_eq_some_iff.1 hz).1
        simpa using this
      rw [List.getElem?_map, List.getElem?_range hi] at hz
      simp only [Option.map_some, Option.some.injEq] at hz
      subst hz
      obtain ⟨_, _, c1, c2, c3⟩ := hq i hi
      obtain ⟨⟨v, e0⟩, _⟩ := hq 0 (by omega)
      obtain ⟨b, off, spot⟩ := x
      have hsp : spot = none := by simpa [Addr.add] using World.cell?_spot e0
      subst hsp
      rw [Addr.add_lit] at c1 c2 c3
      exact ⟨b, off, rfl, lt_of_cell c1, by rw [Nat.add_assoc]; exact c1, by rw [Nat.add_assoc]; exact c2, by rw [Nat.add_assoc]; exact c3⟩

/-- A slice of bools that came in. -/
theorem open_boolsA {H : Type} {enc : TypeId × Value → H} {W : World} {a : Option Addr} {len cap fuel : Nat} {d : DataW H} {p : List MemPlace}
    (hf : DataW.trod enc Try.prog W 0 (fun _ => true) true fuel 23 (Value.slice a len cap).cells.toList = some (d, p)) (hs : ∀ elems spare, d = .slice elems spare → (elems.length + spare.length) * Try.prog.bytesOf 4 ≤ reachBytes) :
    ∃ ks, Bools W a len ks ∧ (∀ b off, a = some ⟨b, off, none⟩ → 0 < len → b < W.heap.size) ∧ len ≤ 140737488355328 := by
  rcases open_bools Try.underlying23 Try.underlying4 Try.cells4 hf with ⟨hcs, _⟩ | ⟨x, len', cap', B, hcs, _, hl, hm, hx, hcell⟩
  · simp [Value.cells] at hcs
    obtain ⟨rfl, rfl, rfl⟩ := hcs
    exact ⟨[], ⟨rfl, fun h => absurd h (by decide)⟩, fun b off e h => absurd h (by decide), by decide⟩
  · simp [Value.cells] at hcs
    obtain ⟨rfl, rfl, rfl⟩ := hcs
    have hlen : len ≤ 140737488355328 := by
      have h1 := (Prod.mk.inj hx).1
      unfold boolRow at h1
      have := hs _ _ h1
      rw [Try.bytes4] at this
      simp only [List.length_map, List.length_range, reachBytes] at this
      omega
    refine ⟨(List.range len).map B, ⟨by simp, fun h0 => ?_⟩, fun b off e h0 => ?_, hlen⟩
    · obtain ⟨b, off, spot⟩ := x
      have hsp : spot = none := by simpa [Addr.add] using World.cell?_spot (hcell 0 (by omega))
      subst hsp
      refine ⟨b, off, rfl, fun i hi => ?_⟩
      have := hcell i (by omega)
      rw [Addr.add_lit] at this
      rw [this]
      simp [List.getD, hi]
    · cases e
      have := hcell 0 (by omega)
      rw [Addr.add_lit] at this
      exact lt_of_cell this
end Go.Proofs.Ytofgphiamllmdaa
