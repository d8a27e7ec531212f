/- The pasts by their oops, rising: an iterator. -/
import Derived.Shelf.Abstract
import Derived.Shelf.RegionOpen
import Derived.OwnWalkIn
import Derived.TacticsInMore
import Derived.LoopNIn
import Derived.LoopIn
import Derived.Test.YtajdelinfkodbaaRng
import Derived.Test.YtajdelinfkodbaaAtx
namespace Go.Proofs.Ytajdelinfkodbaa
open Go.RowKit Go.Shelf
attribute [local go_sem] Oper.semAt_some
set_option maxRecDepth 100000
theorem keysOf_one {f : Int → Option Value} : ∀ {a b : List Int}, a.Pairwise (fun x y => x < y) → b.Pairwise (fun x y => x < y) → (∀ k, k ∈ a ↔ k ∈ b) → a = b
  | [], [], _, _, _ => rfl
  | [], y :: s, _, _, h => by have := (h y).2 (by simp); simp at this
  | x :: r, [], _, _, h => by have := (h x).1 (by simp); simp at this
  | x :: r, y :: s, h1, h2, h => by
    rw [List.pairwise_cons] at h1 h2
    have e : x = y := by
      have m1 := (h x).1 (by simp)
      have m2 := (h y).2 (by simp)
      rcases List.mem_cons.1 m1 with e | m1
      · exact e
      · rcases List.mem_cons.1 m2 with e | m2
        · exact e.symm
        · have a1 := h2.1 x m1
          have a2 := h1.1 y m2
          omega
    subst e
    congr 1
    refine keysOf_one (f := f) h1.2 h2.2 (fun k => ?_)
    have hk := h k
    simp only [List.mem_cons] at hk
    constructor
    · intro hm
      have := h1.1 k hm
      rcases hk.1 (.inr hm) with e | q
      · omega
      · exact q
    · intro hm
      have := h2.1 k hm
      rcases hk.2 (.inr hm) with e | q
      · omega
      · exact q
/-- What the iterator reads. -/
def VRis (bx b : Nat) (mv : Option Nat) (ks : List Int) (pv : Int → Value) (pre : List Int) (W : World) : Prop :=
  W.cell? ⟨bx, 0, none⟩ = some (.pointer (some ⟨b, 0, none⟩)) ∧ W.cell? ⟨b, 2, none⟩ = some (.map mv) ∧ (match mv with
    | none => ks = []
    | some mb => ∃ F, IsMap W mb F ∧ (∀ k, F k ≠ none → 1 ≤ k ∧ k ≤ 4096) ∧ (∀ k, k ∈ ks ↔ F k ≠ none) ∧ ∀ k, k ∈ ks.drop pre.length → F k = some (pv k))
theorem grown_of_below {w w' : World} (h : Below w.heap.size w w') : w.grownBy w' none := ⟨h.os, h.tape, h.output, h.size, fun k hk _ => h.block k hk⟩
theorem sorted_any (n : Nat) (hn : 4 ≤ n) {bx b : Nat} {mv : Option Nat} {ks : List Int} {pv : Int → Value} {W : World} (hks : ks.Pairwise (fun x y => x < y)) (V0 : VRis bx b mv ks pv [] W) :
    CallsIn Fence.wide n Try.prog 56 #[.func (.func 70) #[] #[.pointer (some ⟨W.heap.size, 0, none⟩)]] (W.alloc (.cells #[.map mv] 70)) fun e w' => ∃ (a : Option Addr) (c : Nat), e = .returned (.slice a ks.length c) ∧ w'.ownsRow W.heap.size 2 1 (.slice a ks.length c) ks.length (ks.map (Value.int .i64)) ∧ Below W.heap.size W w' := by
  obtain ⟨_, _, hm⟩ := V0
  have hc : (W.alloc (.cells #[.map mv] 70)).cell? ⟨W.heap.size, 0, none⟩ = some (.map mv) := by simp
  have hlt : W.heap.size < (W.alloc (.cells #[.map mv] 70)).heap.size := by simp
  have B1 : Below W.heap.size W (W.alloc (.cells #[.map mv] 70)) := box_below
  cases mv with
  | none =>
    have hm : ks = [] := hm
    subst hm
    refine (sorted_call_nil n hn hlt hc).mono ?_
    rintro e w' ⟨a, nn, c, ks', rfl, rfl, ⟨_, hk⟩, hrow, hb⟩
    have : ks' = [] := List.eq_nil_iff_forall_not_mem.2 (fun k hk' => (hk k).1 hk' rfl)
    subst this
    exact ⟨a, c, rfl, own_mono hrow (by simp), below_size B1 B1.size hb⟩
  | some mb =>
    obtain ⟨F, h1, h2, h3, _⟩ := hm
    have h1' : IsMap (W.alloc (.cells #[.map (some mb)] 70)) mb F := h1.same (Below.heap_alloc _ _ _ h1.lt)
    refine (sorted_call n hn hlt hc h1' h2).mono ?_
    rintro e w' ⟨a, nn, c, ks', rfl, rfl, ⟨hp, hk⟩, hrow, hb⟩
    have : ks' = ks := keysOf_one (f := F) hp hks (fun k => by rw [hk k, h3 k])
    subst this
    exact ⟨a, c, rfl, own_mono hrow (by simp), below_size B1 B1.size hb⟩
set_option maxHeartbeats 4000000 in
theorem rising_seq {n : Nat} (hn : 6 ≤ n) {bx b : Nat} {mv : Option Nat} {ks : List Int} {pv : Int → Value} (hks : ks.Pairwise (fun x y => x < y)) (hkl : ks.length ≤ 4096) :
    SeqV Fence.wide n Try.prog 55 #[.pointer (some ⟨bx, 0, none⟩)] (fun k => #[.int .i64 k, pv k]) (VRis bx b mv ks pv) (fun pre x => ks[pre.length]? = some x) (fun xs => xs = ks) (fun _ => True) := by
  intro l J Jx W hJ hJx hV hY h0
  have V0 := hV [] W h0
  have cS := sorted_any (n - 1) (by omega) hks V0
  have cK := keys_call (n - 1) mv W
  obtain ⟨v0, v1, _⟩ := V0
  refine callsIn_of_wp Try.func55 rfl trivial ?_ rfl
  simp only [Try.ntmps55, List.size_toArray, List.length_cons, List.length_nil, Nat.reduceAdd, Nat.reduceSub, Array.replicate_succ, Array.replicate_zero, List.push_toArray, List.append_toArray, List.nil_append, List.cons_append]
  have hf1 : Fence.wide.fn 57 := trivial
  have hf2 : Fence.wide.fn 56 := trivial
  have h1 : 1 ≤ n := by omega
  gi_wp2_with (first
    | (gi_at_call 57; refine cK.mono ?_; rintro e w1 ⟨rfl, rfl⟩)
    | (gi_at_call 56; refine cS.mono ?_; rintro e w2 ⟨ka, kc, rfl, hrow, hb⟩))
  have h2 : J [] w2 := hJ [] W w2 none h0 (grown_of_below hb) (fun r e => by cases e)
  clear cK cS v0 v1 h0
  have hkI : ks.length ≤ 9223372036854775807 := by omega
  gi_loopw [12] (fun iv wr => ∃ k : Nat, k ≤ ks.length ∧ iv = .int .i64 (k : Int) ∧ J (ks.take k) wr ∧ wr.ownsRow W.heap.size 2 1 (.slice ka ks.length kc) ks.length (ks.map (Value.int .i64))) (fun iv _ => ks.length - (intOf iv).toNat)
  case atStart => exact ⟨0, Nat.zero_le _, rfl, by simpa using h2, hrow⟩
  case round =>
    clear hrow hb h2
    obtain ⟨k, hk, rfl, hJs, hrow⟩ := hrel
    by_cases hlt : k < ks.length
    · obtain ⟨x, hx⟩ : ∃ x, ks[k]? = some x := ⟨_, List.getElem?_eq_getElem hlt⟩
      obtain ⟨v0, v1, v2⟩ := hV _ wr hJs
      have hpl : (ks.take k).length = k := by rw [List.length_take]; omega
      rw [hpl] at v2
      obtain ⟨fn, tmps, assign, body, hy, hR⟩ := hY (ks.take k) x wr hJs (by rw [hpl]; exact hx)
      have hxm : x ∈ ks.drop k := List.mem_iff_getElem?.2 ⟨0, by rw [List.getElem?_drop]; exact hx⟩
      obtain ⟨kb, rfl⟩ : ∃ kb, ka = some ⟨kb, 0, none⟩ := by
        rcases hrow.2 with ⟨e, h0⟩ | ⟨g, cap, cur, e, _⟩
        · omega
        · cases e; exact ⟨g, rfl⟩
      have hcell : wr.cell? ⟨kb, 0 + k * 1, none⟩ = some (.int .i64 x) := by
        have := World.ownsRow.cells hrow (g := kb) rfl k (.int .i64 x) (by rw [List.getElem?_map, hx]; rfl)
        rw [addr_add] at this
        rw [Nat.mul_one]
        exact this
      have hcell' : wr.cell? ⟨kb, k, none⟩ = some (.int .i64 x) := by simpa using hcell
      have hlk : (Instr.lookup 70 (.map mv) (.int .i64 x) false).run Try.prog wr = .ok (pv x) wr := by
        cases mv with
        | none =>
          have v2 : ks = [] := v2
          rw [v2] at hlt
          simp at hlt
        | some mb =>
          obtain ⟨F, q1, _, _, q4⟩ := v2
          have := q1.lookup (P := Try.prog) (t := 70) Try.underlying70 Try.underlying2 (Try.zeroValue78 wr) x
          rw [q4 x hxm] at this
          exact this
      have hki : (k : Int) < (ks.length : Int) := by omega
      replace hx : Hid (ks[k]? = some x) := hx
      clear v2 hcell hpl hxm
      gi_wp2
      refine hR.mono ?_
      rintro e W3 (⟨rfl, hJ3, hk3⟩ | ⟨rfl, hJx3⟩)
      · rw [← take_at hx.out] at hJ3
        have hrow3 := own_same hrow (fun g hg => by obtain ⟨hl, cur, hh⟩ := own_block hrow hg; exact hk3 g cur 2 hl hh)
        clear hy hk3 hrow
        gi_wp2
        go_roundw
        case rel => exact ⟨k + 1, by omega, by go_num, hJ3, hrow3⟩
        case measure => simp [intOf]; omega
      · clear hy
        gi_wp2
        refine bodyPost_ret (results_none rfl _ _ _) rfl ?_
        exact ⟨⟨_, rfl⟩, .inr ⟨_, trivial, hJx3⟩⟩
    · have hki : ¬ (k : Int) < (ks.length : Int) := by omega
      rw [List.take_of_length_le (by omega)] at hJs
      gi_wp2
      go_end0
      exact ⟨⟨_, rfl⟩, .inl hJs⟩
end Go.Proofs.Ytajdelinfkodbaa
