/- The pasts by their oops, rising: the iterator, beside rows that are somebody's own. -/
import Derived.Test.YtajdelinfkodbaaRis
import Derived.Test.YtajdelinfkodbaaRnw
namespace Go.Proofs.Ytajdelinfkodbaa
open Go.RowKit Go.Shelf
attribute [local go_sem] Oper.semAt_some
set_option maxRecDepth 100000
set_option maxHeartbeats 4000000 in
theorem rising_seqO {n : Nat} (hn : 6 ≤ n) {bx b : Nat} {mv : Option Nat} {ks : List Int} {pv : Int → Value} (hks : ks.Pairwise (fun x y => x < y)) (hkl : ks.length ≤ 4096) :
    SeqW Fence.wide n Try.prog 55 #[.pointer (some ⟨bx, 0, none⟩)] (fun k => #[.int .i64 k, pv k]) (VRis bx b mv ks pv) (fun pre x _ => ks[pre.length]? = some x) (fun xs => xs = ks) (fun _ => True) := by
  intro l J Jx O W hJ hJx hV hO1 hO2 hY h0
  have V0 := hV [] W h0
  have cS := sorted_any (n - 1) (by omega) hks V0
  have cK := keys_call (n - 1) mv W
  obtain ⟨v0, v1, _⟩ := V0
  refine callsIn_of_wp Try.func55 rfl trivial ?_ rfl
  simp only [Try.ntmps55, List.size_toArray, List.length_cons, List.length_nil, Nat.reduceAdd, Nat.reduceSub, Array.replicate_succ, Array.replicate_zero, List.push_toArray, List.append_toArray, List.nil_append, List.cons_append]
  have hf1 : Fence.wide.fn 57 := trivial
  have hf2 : Fence.wide.fn 56 := trivial
  have h1 : 1 ≤ n := by omega
  gi_wp2_with (first
    | (gi_at_call 57; refine cK.mono ?_; rintro e w1 ⟨rfl, rfl⟩)
    | (gi_at_call 56; refine cS.mono ?_; rintro e w2 ⟨ka, kc, rfl, hrow, hb⟩))
  have h2 : J [] w2 := hJ [] W w2 none h0 (grown_of_below hb) (fun r e => by cases e)
  have hO0 : ∀ g, (Value.slice ka ks.length kc).ownBlock = some g → ¬ O w2 g := fun g hg hO => by
    have q1 := hO2 [] W w2 none h0 (grown_of_below hb) (fun r e => by cases e) g hO
    have q2 := hO1 [] W h0 g q1
    have q3 := (own_block hrow hg).1
    omega
  clear cK cS v0 v1 h0
  have hkI : ks.length ≤ 9223372036854775807 := by omega
  gi_loopw [12] (fun iv wr => ∃ k : Nat, k ≤ ks.length ∧ iv = .int .i64 (k : Int) ∧ J (ks.take k) wr ∧ wr.ownsRow W.heap.size 2 1 (.slice ka ks.length kc) ks.length (ks.map (Value.int .i64)) ∧ ∀ g, (Value.slice ka ks.length kc).ownBlock = some g → ¬ O wr g) (fun iv _ => ks.length - (intOf iv).toNat)
  case atStart => exact ⟨0, Nat.zero_le _, rfl, by simpa using h2, hrow, hO0⟩
  case round =>
    clear hrow hb h2 hO0
    obtain ⟨k, hk, rfl, hJs, hrow, hOr⟩ := hrel
    by_cases hlt : k < ks.length
    · obtain ⟨x, hx⟩ : ∃ x, ks[k]? = some x := ⟨_, List.getElem?_eq_getElem hlt⟩
      obtain ⟨v0, v1, v2⟩ := hV _ wr hJs
      have hpl : (ks.take k).length = k := by rw [List.length_take]; omega
      rw [hpl] at v2
      obtain ⟨fn, tmps, assign, body, hy, hR⟩ := hY (ks.take k) x wr hJs (by rw [hpl]; exact hx)
      have hxm : x ∈ ks.drop k := List.mem_iff_getElem?.2 ⟨0, by rw [List.getElem?_drop]; exact hx⟩
      obtain ⟨kb, rfl⟩ : ∃ kb, ka = some ⟨kb, 0, none⟩ := by
        rcases hrow.2 with ⟨e, h0⟩ | ⟨g, cap, cur, e, _⟩
        · omega
        · cases e; exact ⟨g, rfl⟩
      have hcell : wr.cell? ⟨kb, 0 + k * 1, none⟩ = some (.int .i64 x) := by
        have := World.ownsRow.cells hrow (g := kb) rfl k (.int .i64 x) (by rw [List.getElem?_map, hx]; rfl)
        rw [addr_add] at this
        rw [Nat.mul_one]
        exact this
      have hcell' : wr.cell? ⟨kb, k, none⟩ = some (.int .i64 x) := by simpa using hcell
      have hlk : (Instr.lookup 70 (.map mv) (.int .i64 x) false).run Try.prog wr = .ok (pv x) wr := by
        cases mv with
        | none =>
          have v2 : ks = [] := v2
          rw [v2] at hlt
          simp at hlt
        | some mb =>
          obtain ⟨F, q1, _, _, q4⟩ := v2
          have := q1.lookup (P := Try.prog) (t := 70) Try.underlying70 Try.underlying2 (Try.zeroValue78 wr) x
          rw [q4 x hxm] at this
          exact this
      have hki : (k : Int) < (ks.length : Int) := by omega
      replace hx : Hid (ks[k]? = some x) := hx
      clear v2 hcell hpl hxm
      gi_wp2
      refine hR.mono ?_
      rintro e W3 (⟨rfl, hJ3, hk3, _⟩ | ⟨rfl, hJx3, _⟩)
      · rw [← take_at hx.out] at hJ3
        have hrow3 := own_same hrow (fun g hg => by obtain ⟨hl, cur, hh⟩ := own_block hrow hg; exact hk3.keep g cur 2 hl (hOr g hg) hh)
        have hO3 : ∀ g, (Value.slice (some ⟨kb, 0, none⟩) ks.length kc).ownBlock = some g → ¬ O W3 g := fun g hg hO => by
          obtain ⟨_, cur, hh⟩ := own_block hrow hg
          have hl := lt_of_block hh
          rcases hk3.new g hO with q | q
          · exact hOr g hg q
          · omega
        clear hy hk3 hrow
        gi_wp2
        go_roundw
        case rel => exact ⟨k + 1, by omega, by go_num, hJ3, hrow3, hO3⟩
        case measure => simp [intOf]; omega
      · clear hy
        gi_wp2
        refine bodyPost_ret (results_none rfl _ _ _) rfl ?_
        exact ⟨⟨_, rfl⟩, .inr ⟨_, trivial, hJx3⟩⟩
    · have hki : ¬ (k : Int) < (ks.length : Int) := by omega
      rw [List.take_of_length_le (by omega)] at hJs
      gi_wp2
      go_end0
      exact ⟨⟨_, rfl⟩, .inl hJs⟩
end Go.Proofs.Ytajdelinfkodbaa
