/- What a view did itself, by oops, rising: an iterator. -/
import Derived.Test.YteomolihandfnaaGreatNil
import Derived.Test.YteomolihandfnaaGreatKey
import Derived.Test.YteomolihandfnaaGreatRnw
namespace Go.Proofs.YteomolihandfnaaGreat
open Go.RowKit Go.Shelf Go.Sort
attribute [local go_sem] Oper.semAt_some
set_option maxRecDepth 100000
theorem keys_one : ∀ {a b : List Int}, a.Pairwise (fun x y => x < y) → b.Pairwise (fun x y => x < y) → (∀ k, k ∈ a ↔ k ∈ b) → a = b
  | [], [], _, _, _ => rfl
  | [], y :: s, _, _, h => by have := (h y).2 (by simp); simp at this
  | x :: r, [], _, _, h => by have := (h x).1 (by simp); simp at this
  | x :: r, y :: s, h1, h2, h => by
    rw [List.pairwise_cons] at h1 h2
    have e : x = y := by
      have m1 := (h x).1 (by simp)
      have m2 := (h y).2 (by simp)
      rcases List.mem_cons.1 m1 with e | m1
      · exact e
      · rcases List.mem_cons.1 m2 with e | m2
        · exact e.symm
        · have a1 := h2.1 x m1
          have a2 := h1.1 y m2
          omega
    subst e
    congr 1
    refine keys_one h1.2 h2.2 (fun k => ?_)
    have hk := h k
    simp only [List.mem_cons] at hk
    constructor
    · intro hm
      have := h1.1 k hm
      rcases hk.1 (.inr hm) with e | q
      · omega
      · exact q
    · intro hm
      have := h2.1 k hm
      rcases hk.2 (.inr hm) with e | q
      · omega
      · exact q
theorem grown_of_belowD {w w' : World} (h : Below w.heap.size w w') : w.grownBy w' none := ⟨h.os, h.tape, h.output, h.size, fun k hk _ => h.block k hk⟩
def MapD (om : Option Nat) (ks : List Int) (pv : Int → Value) (W : World) : Prop := match om with
  | none => ks = []
  | some mb => ∃ F, IsMap W mb F ∧ (∀ k, F k ≠ none → 1 ≤ k ∧ k ≤ 8192) ∧ (∀ k, k ∈ ks ↔ F k ≠ none) ∧ ∀ k, k ∈ ks → F k = some (pv k)
/-- What the iterator reads. -/
def VDid (b1 b2 b3 b : Nat) (x y : Int) (om : Option Nat) (ks : List Int) (pv : Int → Value) (_pre : List Int) (W : World) : Prop :=
  W.cell? ⟨b1, 0, none⟩ = some (.pointer (some ⟨b, 0, none⟩)) ∧ W.cell? ⟨b2, 0, none⟩ = some (.int .i64 x) ∧ W.cell? ⟨b3, 0, none⟩ = some (.int .i64 y) ∧ W.cell? ⟨b, 3, none⟩ = some (.map om) ∧ MapD om ks pv W
def inP (x y : Int) (k : Int) : Bool := decide (x ≤ k) && decide (k ≤ y)
def OkD (x y : Int) (ks : List Int) (pre : List Int) (k : Int) (_ : World) : Prop := ∃ j, ks[j]? = some k ∧ pre = (ks.take j).filter (inP x y)
theorem sorted_did (n : Nat) (hn : 4 ≤ n) {b1 b2 b3 b : Nat} {x y : Int} {om : Option Nat} {ks : List Int} {pv : Int → Value} {W : World} (hks : ks.Pairwise (fun x y => x < y)) (V0 : VDid b1 b2 b3 b x y om ks pv [] W) :
    CallsIn Fence.wide n Tryz.prog 53 #[.func (.func 88) #[] #[.pointer (some ⟨W.heap.size, 0, none⟩)]] (W.alloc (.cells #[.map om] 76)) fun e w' => ∃ (a : Option Addr) (c : Nat), e = .returned (.slice a ks.length c) ∧ w'.ownsRow W.heap.size 2 1 (.slice a ks.length c) ks.length (ks.map (Value.int .i64)) ∧ Below W.heap.size W w' := by
  obtain ⟨_, _, _, _, hm⟩ := V0
  have hc : (W.alloc (.cells #[.map om] 76)).cell? ⟨W.heap.size, 0, none⟩ = some (.map om) := by simp
  have hlt : W.heap.size < (W.alloc (.cells #[.map om] 76)).heap.size := by simp
  have B1 : Below W.heap.size W (W.alloc (.cells #[.map om] 76)) := box_below
  cases om with
  | none =>
    have hm : ks = [] := hm
    subst hm
    refine (sorted_call_nilO n hn hlt hc).mono ?_
    rintro e w' ⟨a, nn, c, ks', rfl, rfl, ⟨_, hk⟩, hrow, hb⟩
    have : ks' = [] := List.eq_nil_iff_forall_not_mem.2 (fun k hk' => (hk k).1 hk' rfl)
    subst this
    exact ⟨a, c, rfl, own_mono hrow (by simp), below_size B1 B1.size hb⟩
  | some mb =>
    obtain ⟨F, h1, h2, h3, _⟩ := hm
    have h1' : IsMap (W.alloc (.cells #[.map (some mb)] 76)) mb F := h1.same (Below.heap_alloc _ _ _ h1.lt)
    refine (sorted_callO n hn hlt hc h1' h2).mono ?_
    rintro e w' ⟨a, nn, c, ks', rfl, rfl, ⟨hp, hk⟩, hrow, hb⟩
    have : ks' = ks := keys_one hp hks (fun k => by rw [hk k, h3 k])
    subst this
    exact ⟨a, c, rfl, own_mono hrow (by simp), below_size B1 B1.size hb⟩
set_option maxHeartbeats 8000000 in
theorem did_seq {n : Nat} (hn : 6 ≤ n) {b1 b2 b3 b : Nat} {x y : Int} {om : Option Nat} {ks : List Int} {pv : Int → Value} (hks : ks.Pairwise (fun x y => x < y)) (hkl : ks.length ≤ 8192) :
    SeqW Fence.wide n Tryz.prog 74 #[.pointer (some ⟨b1, 0, none⟩), .pointer (some ⟨b2, 0, none⟩), .pointer (some ⟨b3, 0, none⟩)] (fun k => #[.int .i64 k, pv k]) (VDid b1 b2 b3 b x y om ks pv) (OkD x y ks) (fun xs => xs = ks.filter (inP x y)) (fun _ => True) := by
  intro l J Jx O W hJ hJx hV hO1 hO2 hY h0
  have V0 := hV [] W h0
  have cS := sorted_did (n - 1) (by omega) hks V0
  have cK := keys_callO (n - 1) om W
  obtain ⟨v0, v1, v2, v3, _⟩ := V0
  refine callsIn_of_wp Tryz.func74 rfl trivial ?_ rfl
  simp only [Tryz.ntmps74, List.size_toArray, List.length_cons, List.length_nil, Nat.reduceAdd, Nat.reduceSub, Array.replicate_succ, Array.replicate_zero, List.push_toArray, List.append_toArray, List.nil_append, List.cons_append]
  have hf1 : Fence.wide.fn 75 := trivial
  have hf2 : Fence.wide.fn 53 := trivial
  have h1 : 1 ≤ n := by omega
  gi_wp2_with (first
    | (gi_at_call 75; refine cK.mono ?_; rintro e w1 ⟨rfl, rfl⟩)
    | (gi_at_call 53; refine cS.mono ?_; rintro e w2 ⟨ka, kc, rfl, hrow, hb⟩))
  have h2 : J [] w2 := hJ [] W w2 none h0 (grown_of_belowD hb) (fun r e => by cases e)
  have hO0 : ∀ g, (Value.slice ka ks.length kc).ownBlock = some g → ¬ O w2 g := fun g hg hO => by
    have q1 := hO2 [] W w2 none h0 (grown_of_belowD hb) (fun r e => by cases e) g hO
    have q2 := hO1 [] W h0 g q1
    have q3 := (own_block hrow hg).1
    omega
  clear cK cS v0 v1 v2 v3 h0
  have hkI : ks.length ≤ 9223372036854775807 := by omega
  gi_loopw [16] (fun iv wr => ∃ k : Nat, k ≤ ks.length ∧ iv = .int .i64 (k : Int) ∧ J ((ks.take k).filter (inP x y)) wr ∧ wr.ownsRow W.heap.size 2 1 (.slice ka ks.length kc) ks.length (ks.map (Value.int .i64)) ∧ ∀ g, (Value.slice ka ks.length kc).ownBlock = some g → ¬ O wr g) (fun iv _ => ks.length - (intOf iv).toNat)
  case atStart => exact ⟨0, Nat.zero_le _, rfl, by simpa using h2, hrow, hO0⟩
  case round =>
    clear hrow hb h2 hO0
    obtain ⟨k, hk, rfl, hJs, hrow, hOr⟩ := hrel
    by_cases hlt : k < ks.length
    · obtain ⟨z, hx⟩ : ∃ z, ks[k]? = some z := ⟨_, List.getElem?_eq_getElem hlt⟩
      obtain ⟨v0, v1, v2, v3, v4⟩ := hV _ wr hJs
      have hxm : z ∈ ks := List.mem_iff_getElem?.2 ⟨k, hx⟩
      obtain ⟨kb, rfl⟩ : ∃ kb, ka = some ⟨kb, 0, none⟩ := by
        rcases hrow.2 with ⟨e, h0⟩ | ⟨g, cap, cur, e, _⟩
        · omega
        · cases e; exact ⟨g, rfl⟩
      have hcell : wr.cell? ⟨kb, 0 + k * 1, none⟩ = some (.int .i64 z) := by
        have := World.ownsRow.cells hrow (g := kb) rfl k (.int .i64 z) (by rw [List.getElem?_map, hx]; rfl)
        rw [Addr.add_lit] at this
        rw [Nat.mul_one]
        exact this
      have hcell' : wr.cell? ⟨kb, k, none⟩ = some (.int .i64 z) := by simpa using hcell
      have hlk : (Instr.lookup 76 (.map om) (.int .i64 z) false).run Tryz.prog wr = .ok (pv z) wr := by
        cases om with
        | none =>
          have v4 : ks = [] := v4
          rw [v4] at hlt
          simp at hlt
        | some mb =>
          obtain ⟨F, q1, _, _, q4⟩ := v4
          have := q1.lookup (P := Tryz.prog) (t := 76) Tryz.underlying76 Tryz.underlying2 (Tryz.zeroValue35 wr) z
          rw [q4 z hxm] at this
          exact this
      have hki : (k : Int) < (ks.length : Int) := by omega
      by_cases hp : x ≤ z ∧ z ≤ y
      · have hpz : inP x y z = true := by unfold inP; simp [hp]
        obtain ⟨fn, tmps, assign, body, hy, hR⟩ := hY _ z wr hJs ⟨k, hx, rfl⟩
        have hp1 := hp.1
        have hp2 := hp.2
        replace hx : Hid (ks[k]? = some z) := hx
        clear v4 hcell hxm
        gi_wp2
        first | refine hR.mono ?_ | refine ⟨trivial, fun hd => (by cases hd), hR.mono ?_⟩ | refine ⟨trivial, hR.mono ?_⟩
        rintro e W3 (⟨rfl, hJ3, hk3, _⟩ | ⟨rfl, hJx3, _⟩)
        · have hJ4 : J ((ks.take (k + 1)).filter (inP x y)) W3 := by
            rw [take_at hx.out, List.filter_append, List.filter_cons_of_pos hpz]
            exact hJ3
          have hrow3 := own_same hrow (fun g hg => by obtain ⟨hl, cur, hh⟩ := own_block hrow hg; exact hk3.keep g cur 2 hl (hOr g hg) hh)
          have hO3 : ∀ g, (Value.slice (some ⟨kb, 0, none⟩) ks.length kc).ownBlock = some g → ¬ O W3 g := fun g hg hO => by
            obtain ⟨_, cur, hh⟩ := own_block hrow hg
            have hl := lt_of_block hh
            rcases hk3.new g hO with q | q
            · exact hOr g hg q
            · omega
          clear hy hk3 hrow hJ3
          gi_wp2
          go_roundw
          case rel => exact ⟨k + 1, by omega, by go_num, hJ4, hrow3, hO3⟩
          case measure => simp [intOf]; omega
        · clear hy
          gi_wp2
          refine bodyPost_ret (results_none rfl _ _ _) rfl ?_
          exact ⟨⟨_, rfl⟩, .inr ⟨_, trivial, hJx3⟩⟩
      · have hpz : ¬ inP x y z = true := by unfold inP; simp; omega
        have hJ4 : J ((ks.take (k + 1)).filter (inP x y)) wr := by
          rw [take_at hx, List.filter_append, List.filter_cons_of_neg hpz]
          simpa using hJs
        replace hx : Hid (ks[k]? = some z) := hx
        clear v4 hcell hxm hJs
        by_cases hp1 : x ≤ z
        · have hp2 : ¬ z ≤ y := fun q => hp ⟨hp1, q⟩
          gi_wp2
          refine ⟨fun _ h => (by cases h), ?_⟩
          gi_wp2
          go_roundw
          case rel => exact ⟨k + 1, by omega, by go_num, hJ4, hrow, hOr⟩
          case measure => simp [intOf]; omega
        · gi_wp2
          refine ⟨fun _ h => (by cases h), ?_⟩
          gi_wp2
          go_roundw
          case rel => exact ⟨k + 1, by omega, by go_num, hJ4, hrow, hOr⟩
          case measure => simp [intOf]; omega
    · have hki : ¬ (k : Int) < (ks.length : Int) := by omega
      rw [List.take_of_length_le (by omega)] at hJs
      gi_wp2
      go_end0
      exact ⟨⟨_, rfl⟩, .inl hJs⟩
end Go.Proofs.YteomolihandfnaaGreat
