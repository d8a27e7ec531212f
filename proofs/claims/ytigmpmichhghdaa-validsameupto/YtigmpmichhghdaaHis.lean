/- A history in memory; New, below, above, Len. -/
import Derived.Test.YtigmpmichhghdaaLwM
namespace Go.Proofs.Ytigmpmichhghdaa
open Go.RowKit
set_option maxRecDepth 100000
/-- The six cells of a history. -/
def hisB (mv kv : Value) (b : Bool) (n : Int) : Obj := .cells #[mv, kv, .bool b, .int .i64 n, .bool false, .int .i64 0] 69 (0, 0)
/-- A history of which nothing was forgotten; T: all its blocks, S: those of what was written. -/
structure Hist (w : World) (S T : Nat → Prop) (bh : Nat) (f : Int → List Int) (ks : List Int) (ad : Option Int) : Prop where
  pl : Pl w S bh f
  sub : ∀ b, S b → T b
  lt : ∀ b, T b → b < w.heap.size
  no : ∀ b, T b → ∀ cs, w.heap[b]? ≠ some (.cells cs 25 (0, 0))
  row : ∃ mv ka kn kc, w.heap[bh]? = some (hisB mv (.slice ka kn kc) ad.isSome (ad.getD 0)) ∧ OwnI w 0 (.slice ka kn kc) ks ∧ ∀ g, (Value.slice ka kn kc).ownBlock = some g → T g ∧ ¬ S g
theorem Pl.cut {w : World} {S : Nat → Prop} {bp : Nat} {f : Int → List Int} (h : Pl w S bp f) (hn : ∀ cs, w.heap[bp]? ≠ some (.cells cs 25 (0, 0))) : Pl w (fun b => S b ∧ b < w.heap.size ∧ ∀ cs, w.heap[b]? ≠ some (.cells cs 25 (0, 0))) bp f := by
  obtain ⟨⟨mv, hc, hv⟩, ho, ⟨cs, t, hb, ht⟩⟩ := h
  refine ⟨⟨mv, hc, ?_⟩, ⟨ho, lt_of_block hb, hn⟩, ⟨cs, t, hb, ht⟩⟩
  cases mv with
  | none => exact hv
  | some mb =>
    obtain ⟨F, h1⟩ := hv
    refine ⟨F, h1.map, ⟨h1.own, h1.map.lt, fun cs e => ?_⟩, h1.no, fun k v hk => ?_, h1.apart⟩
    · obtain ⟨L, c, hL, _⟩ := h1.map
      rw [hL] at e
      cases e
    · obtain ⟨q1, q2, q3⟩ := h1.yes k v hk
      refine ⟨q1, q2, fun g hg => ⟨q3 g hg, lt_of_block (own_block q1.1 hg).2.choose_spec, fun cs e => ?_⟩⟩
      obtain ⟨_, cur, hh⟩ := own_block q1.1 hg
      rw [hh] at e
      exact absurd (cells_ty e) (by decide)
/-- The head's other cells may turn. -/
theorem Pl.head {w w3 : World} {S : Nat → Prop} {bp : Nat} {f : Int → List Int} {mv k k' : Value} {b b' : Bool} {n n' : Int} (h : Pl w S bp f) (hb : w.heap[bp]? = some (hisB mv k b n)) (hb' : w3.heap[bp]? = some (hisB mv k' b' n')) (hk : ∀ c, c ≠ bp → w3.heap[c]? = w.heap[c]?) : Pl w3 S bp f := by
  obtain ⟨⟨mv0, hc, hv⟩, ho, _⟩ := h
  have e0 : w.cell? ⟨bp, 0, none⟩ = some mv := by unfold hisB at hb; rw [cell_of_row w bp 0 _ _ _ hb]; rfl
  have e1 : w3.cell? ⟨bp, 0, none⟩ = some mv := by unfold hisB at hb'; rw [cell_of_row w3 bp 0 _ _ _ hb']; rfl
  rw [e0] at hc
  refine ⟨⟨mv0, e1.trans hc, ?_⟩, ho, ⟨_, 69, hb', by decide⟩⟩
  cases mv0 with
  | none => exact hv
  | some mb =>
    obtain ⟨F, h1⟩ := hv
    have hmb : mb ≠ bp := fun e => by
      obtain ⟨L, c, hL, _⟩ := h1.map
      rw [e, hb] at hL
      cases hL
    refine ⟨F, h1.map.same (hk mb hmb), h1.own, h1.no, fun kk v hv => ?_, h1.apart⟩
    obtain ⟨q1, q2, q3⟩ := h1.yes kk v hv
    exact ⟨⟨own_same q1.1 (fun g hg => hk g (fun e => own_ne q1.1 hb (by decide) (by rw [hg, e]))), q1.2⟩, q2, q3⟩
theorem his_cells {w : World} {b : Nat} {mv kv : Value} {bb : Bool} {n : Int} (h : w.heap[b]? = some (hisB mv kv bb n)) : w.cell? ⟨b, 0, none⟩ = some mv ∧ w.cell? ⟨b, 1, none⟩ = some kv ∧ w.cell? ⟨b, 2, none⟩ = some (.bool bb) ∧ w.cell? ⟨b, 3, none⟩ = some (.int .i64 n) ∧ w.cell? ⟨b, 4, none⟩ = some (.bool false) ∧ w.cell? ⟨b, 5, none⟩ = some (.int .i64 0) ∧ ∀ i, w.frozen? ⟨b, i, none⟩ = false := by
  unfold hisB at h
  refine ⟨?_, ?_, ?_, ?_, ?_, ?_, fun i => ?_⟩
  · rw [cell_of_row w b 0 _ _ _ h]; rfl
  · rw [cell_of_row w b 1 _ _ _ h]; rfl
  · rw [cell_of_row w b 2 _ _ _ h]; rfl
  · rw [cell_of_row w b 3 _ _ _ h]; rfl
  · rw [cell_of_row w b 4 _ _ _ h]; rfl
  · rw [cell_of_row w b 5 _ _ _ h]; rfl
  · unfold World.frozen?
    rw [h]
    rfl
theorem Hist.same {w w' : World} {S T : Nat → Prop} {bh : Nat} {f : Int → List Int} {ks : List Int} {ad : Option Int} (h : Hist w S T bh f ks ad) (hs : w.heap.size ≤ w'.heap.size) (hk : ∀ b, T b → w'.heap[b]? = w.heap[b]?) : Hist w' S T bh f ks ad := by
  obtain ⟨p, hst, hlt, hno, mv, ka, kn, kc, h1, h2, h3⟩ := h
  exact ⟨p.same (fun _ h => h) (fun b _ hb => hk b (hst b hb)), hst, fun b hb => Nat.lt_of_lt_of_le (hlt b hb) hs, fun b hb cs => by rw [hk b hb]; exact hno b hb cs, mv, ka, kn, kc, (hk _ (hst _ p.own)).trans h1, ⟨own_same h2.1 (fun g hg => hk g (h3 g hg).1), h2.2⟩, h3⟩
theorem Hist.below {w w' : World} {S T : Nat → Prop} {bh : Nat} {f : Int → List Int} {ks : List Int} {ad : Option Int} (h : Hist w S T bh f ks ad) (hb : Below w.heap.size w w') : Hist w' S T bh f ks ad := h.same hb.size (fun b hT => hb.block b (h.lt b hT))
set_option maxHeartbeats 1000000 in
theorem hnew_any (w : World) : Calls Try.prog 21 #[] w fun e w' => e = .returned (.pointer (some ⟨w.heap.size, 0, none⟩)) ∧ Hist w' (fun b => b = w.heap.size) (fun b => b = w.heap.size) w.heap.size (fun _ => []) [] none ∧ Below w.heap.size w w' := by
  go_enter Try.func21, Try.ntmps21
  go_wp2
  go_ret
  refine ⟨rfl, ⟨⟨⟨none, by simp, fun o => rfl⟩, rfl, ⟨_, 69, new1 _ _, by decide⟩⟩, fun _ h => h, fun b hb => by subst hb; simp, fun b hb cs e => (by subst hb; rw [new1] at e; cases e), ⟨.map none, none, 0, 0, new1 _ _, ownI_nil _ _, fun g hg => by cases hg⟩⟩, box_below⟩
set_option maxHeartbeats 1000000 in
theorem below_any (b : Bool) (n c : Int) (w : World) : Calls Try.prog 34 #[.agg #[.bool b, .int .i64 n], .int .i64 c] w fun e w' => e = .returned (.bool (!b || decide (n < c))) ∧ Below w.heap.size w w' := by
  cases b with
  | false =>
    go_enter Try.func34, Try.ntmps34
    go_wp2
    go_ret
    exact ⟨rfl, box_below⟩
  | true =>
    go_enter Try.func34, Try.ntmps34
    go_wp2
    go_ret
    exact ⟨by simp, box_below⟩
set_option maxHeartbeats 1000000 in
theorem habove_any (n c : Int) (w : World) : Calls Try.prog 44 #[.agg #[.bool false, .int .i64 n], .int .i64 c] w fun e w' => e = .returned (.bool false) ∧ Below w.heap.size w w' := by
  go_enter Try.func44, Try.ntmps44
  go_wp2
  go_ret
  exact ⟨rfl, box_below⟩
set_option maxHeartbeats 1000000 in
theorem hlen_any {w : World} {S T : Nat → Prop} {bh : Nat} {f : Int → List Int} {ks : List Int} {ad : Option Int} (h : Hist w S T bh f ks ad) : Calls Try.prog 24 #[.pointer (some ⟨bh, 0, none⟩)] w fun e w' => e = .returned (.int .i64 (ks.length : Int)) ∧ Below w.heap.size w w' := by
  obtain ⟨_, _, _, _, mv, ka, kn, kc, h1, h2, _⟩ := h
  obtain ⟨_, c1, _, _, _, _, _⟩ := his_cells h1
  have hn : Hid (kn = ks.length) := by obtain ⟨_, _, _, e, hl⟩ := h2.shape; cases e; exact hl
  go_enter Try.func24, Try.ntmps24
  go_wp2
  go_ret
  exact ⟨by rw [← hn.out]; rfl, Below.refl _ _⟩
end Go.Proofs.Ytigmpmichhghdaa
