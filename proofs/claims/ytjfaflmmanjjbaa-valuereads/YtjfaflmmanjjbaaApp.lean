/- append of bytes that came in, nil or not, onto nil or onto a slice of the call's own. -/
import Derived.Test.YtjfaflmmanjjbaaIsB
import Derived.Laws.AppendOwnNone
import Derived.Lib.AppendZeros
namespace Go.Proofs.Ytjfaflmmanjjbaa
open Go.RowKit
set_option maxRecDepth 100000

theorem own_shape {w : World} {base n : Nat} {v : Value} {xs : List Value} (h : w.ownsRow base 5 1 v n xs) (h0 : 0 < n) : ∃ g cap, v = .slice (some ⟨g, 0, none⟩) n cap ∧ base ≤ g := by
  rcases h.2 with ⟨_, h1⟩ | ⟨g, cap, cur, hv, hg, _⟩
  · omega
  · exact ⟨g, cap, hv, hg⟩

theorem growBy_le (need : Nat) : ∀ (f c : Nat), c ≤ need + (need + 768) / 4 → Builtin.growBy need f c ≤ need + (need + 768) / 4
  | 0, c, h => by unfold Builtin.growBy; exact h
  | f + 1, c, h => by
    unfold Builtin.growBy
    split
    · exact h
    · exact growBy_le need f (c + (c + 768) / 4) (by omega)
theorem nextcap_le (need old : Nat) (h : old < need) : Builtin.nextslicecap need old ≤ need + (need + 768) / 4 + 512 := by
  unfold Builtin.nextslicecap
  split
  · omega
  · split
    · omega
    · have := growBy_le need 4 old (by omega)
      omega

theorem app_some {ops : Array Oper} {rest : List Oper} {o : Oper} {a : Act} {Q : Exit → Act → World → Prop} (w : World) (hgd : o.guard = none) (s x : Operand)
    (ho : o.op = .call { callee := .builtin .append, args := #[s, x], argTypes := #[25, 25] })
    (base g n cap0 : Nat) (xs : List Int) (hs : a.eval s = .slice (some ⟨g, 0, none⟩) n cap0) (hown : w.ownsRow base 5 1 (.slice (some ⟨g, 0, none⟩) n cap0) n (xs.map (Value.int .u8)))
    (ad : Addr) (len cap : Nat) (ys : List Int) (hx : a.eval x = .slice (some ad) len cap) (hB : IsB w (some ad) len cap ys) (h47 : n + len ≤ 140737488500000) (hbase : base ≤ w.heap.size)
    (h : ∀ v' w', w'.ownsRow base 5 1 v' (n + len) ((xs ++ ys).map (Value.int .u8)) → Below base w w' → wpList Try.prog ops Q rest (a.put o.dst v') w') : wpList Try.prog ops Q (o :: rest) a w := by
  obtain ⟨i0, hi, hz0, hz1, hz2⟩ := info_parts Try.info5
  have hbg : base ≤ g := (hown.lt g rfl).1
  by_cases hroom : n + len ≤ cap0
  · refine wpList_append_fits w hgd s x 25 ho base 5 i0 1 Try.underlying25 hi hz1 g n cap0 _ hs hown ad len cap (ys.map (Value.int .u8)) hx hB.lenMap (hB.cellsAt ad rfl) hB.one hroom ?_
    intro w' hown' hgrow
    rw [← List.map_append] at hown'
    exact h _ w' hown' ((Below.refl _ _).grown hgrow hbase (by simpa using hbg))
  · have hr := run_append_grow (P := Try.prog) w 25 o.type 5 i0 (.int .u8 0) Try.underlying25 hi hz0 ⟨g, 0, none⟩ n cap0 (xs.map (Value.int .u8)) (by rw [hz1]; exact hown.1) (hown.cells (g := g) rfl) ad len cap (ys.map (Value.int .u8)) (by rw [hz1]; exact hB.lenMap) (hB.cellsAt ad rfl) (by omega) (by omega)
      (by have := nextcap_le (n + len) cap0 (by omega); rw [hz2]; omega)
    refine Lib.wpList_append_run w hgd s x 25 25 ho _ _ hs hx _ _ hr ?_
    have hge := grownCap_ge w (n + len) cap0 5
    have hcm : grownCap w (n + len) cap0 5 ≤ maxLen := grownCap_le_maxLen w (n + len) cap0 5 (by unfold maxLen; omega)
    have hl1 : (xs.map (Value.int .u8)).length = n := by simpa using hown.1
    have hl2 : (ys.map (Value.int .u8)).length = len := by simpa using hB.lenMap
    refine h _ _ ⟨?_, .inr ⟨w.heap.size, _, _, rfl, hbase, heap_alloc_new w.drew _, hge, hcm, ?_, ?_⟩⟩ ((Below.refl _ _).drew.alloc hbase _)
    · rw [List.map_append, List.length_append, hl1, hl2, Nat.mul_one]
    · simp only [Array.size_append, List.size_toArray, size_zeroCells, hl1, hl2]
      show n + len + (grownCap w (n + len) cap0 5 - (n + len)) * 1 = _
      omega
    · rw [Array.toList_append, Array.toList_append, List.map_append]
      simp only [Nat.mul_one]
      exact List.take_left' (by rw [List.length_append]; omega)

theorem app_bytes {ops : Array Oper} {rest : List Oper} {o : Oper} {a : Act} {Q : Exit → Act → World → Prop} (w : World) (hgd : o.guard = none) (s x : Operand)
    (ho : o.op = .call { callee := .builtin .append, args := #[s, x], argTypes := #[25, 25] })
    (base : Nat) (v : Value) (n : Nat) (xs : List Int) (hs : a.eval s = v) (hown : w.ownsRow base 5 1 v n (xs.map (Value.int .u8)))
    (ab : Option Addr) (len cap : Nat) (ys : List Int) (hx : a.eval x = .slice ab len cap) (hB : IsB w ab len cap ys) (h47 : n + len ≤ 140737488500000) (h47' : len ≤ 140737488355328) (hbase : base ≤ w.heap.size)
    (h : ∀ v' w', w'.ownsRow base 5 1 v' (n + len) ((xs ++ ys).map (Value.int .u8)) → Below base w w' → wpList Try.prog ops Q rest (a.put o.dst v') w') : wpList Try.prog ops Q (o :: rest) a w := by
  obtain ⟨i0, hi, hz0, hz1, hz2⟩ := info_parts Try.info5
  cases ab with
  | none =>
    obtain ⟨rfl, rfl⟩ := hB.nil' rfl
    obtain rfl : ys = [] := List.eq_nil_of_length_eq_zero hB.size
    refine wpList_append_own_none hgd s x 25 ho base 5 i0 1 Try.underlying25 hi v n _ hs hown hx ?_
    exact h v w (by simpa using hown) (Below.refl _ _)
  | some ad =>
    have hown0 := hown
    rcases hown.2 with ⟨rfl, rfl⟩ | ⟨g, cap0, cur, rfl, _⟩
    · refine wpList_append_own w hgd s x 25 ho base 5 i0 (.int .u8 0) 1 1 Try.underlying25 hi hz0 hz1 hz2 rfl (by decide) _ 0 _ hs hown0 ad len cap (ys.map (Value.int .u8)) hx hB.lenMap (hB.cellsAt ad rfl) hB.one (by unfold maxLen; omega) (by omega) hbase ?_
      intro v' w' hown' hgrow _
      rw [← List.map_append] at hown'
      exact h v' w' hown' ((Below.refl _ _).grown hgrow hbase (fun j hj => (hown0.lt j hj).1))
    · exact app_some w hgd s x ho base g n cap0 xs hs hown0 ad len cap ys hx hB h47 hbase h
end Go.Proofs.Ytjfaflmmanjjbaa
