/- Oops of a view in general, Reads; the keys of a view. -/
import Derived.Test.YteomolihandfnaaGreatVds
namespace Go.Proofs.YteomolihandfnaaGreat
open Go.RowKit Go.Shelf Go.Sort
attribute [local go_sem] Oper.semAt_some
set_option maxRecDepth 100000
theorem Tryz.info2 : (Tryz.prog.info? 2).map (fun i => (i.zero, i.size, i.bytes)) = some (some (.int .i64 0), 1, 8) := by kernel_rfl
/-- append of one number: where the new row lies. -/
theorem app_i64 (w : World) (ty base : Nat) (v : Value) (xs : List Int) (hown : w.ownsRow base 2 1 v xs.length (xs.map (Value.int .i64))) (y : Int) (b8 : Nat) (hb8 : w.cell? ⟨b8, 0, none⟩ = some (.int .i64 y)) (hn : xs.length ≤ 1000000000) (hbase : base ≤ w.heap.size) :
    ∃ a' n' c' w', (Builtin.append_ #[66, 66] ty #[v, .slice (some ⟨b8, 0, none⟩) 1 1]).run Tryz.prog w = .ok (.slice a' n' c') w' ∧ w'.ownsRow base 2 1 (.slice a' n' c') (xs ++ [y]).length ((xs ++ [y]).map (Value.int .i64)) ∧ w.grownBy w' v.ownBlock ∧ (∀ g, (Value.slice a' n' c').ownBlock = some g → v.ownBlock = some g ∨ w.heap.size ≤ g) := by
  obtain ⟨i, hi, hz, hs, hb⟩ := info_parts Tryz.info2
  have hnews : ∀ j u, ([Value.int .i64 y])[j]? = some u → w.cell? ((⟨b8, 0, none⟩ : Addr).add j) = some u := by
    intro j u hj
    match j with
    | 0 => cases hj; exact hb8
    | j + 1 => cases hj
  have h1c : ∀ u ∈ [Value.int .i64 y], u.oneCell' = true := by simp [Value.oneCell']
  obtain ⟨v', w', hr, h1, h2, _⟩ := run_append_own (P := Tryz.prog) w base 66 ty 2 i _ 1 8 Tryz.underlying66 hi hz hs hb rfl (by decide) v xs.length _ hown ⟨b8, 0, none⟩ 1 1 [.int .i64 y] rfl hnews h1c (by unfold maxLen; omega) (by omega) hbase
  have O : w'.ownsRow base 2 1 v' (xs ++ [y]).length ((xs ++ [y]).map (Value.int .i64)) := by rw [List.map_append, List.length_append]; exact h1
  obtain ⟨a', c', hv⟩ := own_slice O
  subst hv
  refine ⟨a', _, c', w', hr, O, h2, fun g hg => ?_⟩
  rcases hown.2 with ⟨rfl, h0⟩ | ⟨g0, cap, cur, rfl, hbg, hgh, hnc, hcm, hcs, htake⟩
  · have hx0 : xs = [] := List.eq_nil_of_length_eq_zero h0
    subst hx0
    obtain ⟨v2, w2, hr2, h12, _, _⟩ := run_append_own (P := Tryz.prog) w w.heap.size 66 ty 2 i _ 1 8 Tryz.underlying66 hi hz hs hb rfl (by decide) (.slice none 0 0) 0 [] (World.ownsRow_nil _ _ _ _) ⟨b8, 0, none⟩ 1 1 [.int .i64 y] rfl hnews h1c (by unfold maxLen; omega) (by omega) (Nat.le_refl _)
    rw [hr] at hr2
    injection hr2 with e1 e2
    subst e1
    exact .inr (own_block h12 hg).1
  · by_cases hroom : xs.length + 1 ≤ cap
    · obtain ⟨w2, hr2, _, _⟩ := run_append_own_spare (P := Tryz.prog) w base 66 ty 2 i 1 Tryz.underlying66 hi hs g0 xs.length cap _ hown ⟨b8, 0, none⟩ 1 1 [.int .i64 y] rfl hnews h1c hroom
      rw [hr] at hr2
      injection hr2 with e1 e2
      rw [e1] at hg
      exact .inl hg
    · have holds : ∀ j u, (xs.map (Value.int .i64))[j]? = some u → w.cell? ((⟨g0, 0, none⟩ : Addr).add j) = some u := World.ownsRow.cells hown (g := g0) rfl
      have hr2 := run_append_grow (P := Tryz.prog) w 66 ty 2 i _ Tryz.underlying66 hi hz ⟨g0, 0, none⟩ xs.length cap _ (by rw [hs]; exact hown.1) holds ⟨b8, 0, none⟩ 1 1 [.int .i64 y] (by rw [hs]; rfl) hnews (by omega) (by omega) (growslice_fits (by omega) (by rw [hb]; omega))
      rw [hr] at hr2
      injection hr2 with e1 e2
      rw [e1] at hg
      simp [Value.ownBlock] at hg
      exact .inr (by omega)
/-- append within a fence, its run known. -/
theorem appIn {F : Fence} {n : Nat} {P : Program} (w : World) {ops : Array Oper} {rest : List Oper} {o : Oper} {a : Act} {Q : Exit → Act → World → Prop} (hg : o.guard = none) (s x : Operand) (t : TypeId) (hop : o.op = Op.call { callee := Callee.builtin Builtin.append, args := #[s, x], argTypes := #[t, t] })
    (vs vx : Value) (hs : a.eval s = vs) (hx : a.eval x = vx) (v' : Value) (w' : World) (hr : (Builtin.append_ #[t, t] o.type #[vs, vx]).run P w = .ok v' w') (hK : wpListIn F n P ops Q rest (a.put o.dst v') w') : wpListIn F n P ops Q (o :: rest) a w := by
  refine wpListIn_plain hg fun K hK' => ?_
  unfold Oper.wpIn
  refine ⟨?_, ?_⟩
  · simp [Oper.about, hop, resolve, Target.leads, Sem.run_pure]
  · rw [Oper.semAt_plain F _ _ (by rw [hop]; intro c hc'; cases hc')]
    simp [execOp, hop, resolve, invoke, builtin, hs, hx, hr, Result.andThen]
    exact hK' _ _ hK
def OopP (w : World) (ks : List Int) (e : Ending) (w' : World) : Prop := ∃ a n cap, e = .returned (.slice a n cap) ∧ n = ks.length ∧ w'.ownsRow w.heap.size 2 1 (.slice a n cap) n (ks.map (Value.int .i64)) ∧ Below w.heap.size w w'
/-- Where a view's keys lie. -/
structure KyV (v : Vw) : Prop where
  rd : ∀ k, v.reads k = true → 1 ≤ k ∧ k ≤ 4096
  ow : ∀ k, v.own k ≠ none → 1 ≤ k ∧ k ≤ 8192
theorem KyV.new (c : Int) : KyV (vw0 c) := ⟨fun k h => by simp [vw0] at h, fun k h => by simp [vw0] at h⟩
theorem KyV.read {v : Vw} (h : KyV v) (k : Int) : KyV (readV v k) := by
  unfold readV
  split
  · rename_i hk
    refine ⟨fun i hi => ?_, h.ow⟩
    simp only [Bool.or_eq_true, decide_eq_true_eq] at hi
    rcases hi with hi | rfl
    · exact h.rd i hi
    · exact hk
  · exact h
theorem KyV.keep {v : Vw} (h : KyV v) {k : Int} (o : Ob) (hk : 1 ≤ k ∧ k ≤ 8192) : KyV (keepV v k o) := by
  refine ⟨h.rd, fun i hi => ?_⟩
  by_cases e : i = k
  · subst e; exact hk
  · refine h.ow i (fun q => hi ?_)
    simp [keepV, e, q]
theorem Tb.dom {w : World} {S R : Nat → Prop} {b : Nat} {t : Tab} (h : Tb w S R b t) {k : Int} (hk : (t.m k).vs ≠ []) : 1 ≤ k ∧ k ≤ 4096 := by
  obtain ⟨mv, _, hV⟩ := h.blk
  cases mv with
  | none => exact absurd (by rw [show t.m k = ⟨0, []⟩ from hV k]) hk
  | some mb =>
    obtain ⟨F, hF⟩ := hV
    exact hF.dom k (fun q => hk (by rw [hF.no k q]))
theorem atC_ne {xs : List Ch} {c : Int} (h : atC xs c ≠ none) : xs ≠ [] := fun e => h (by subst e; rfl)
theorem KyV.put {v : Vw} (h : KyV v) {w : World} {S R : Nat → Prop} {b : Nat} {t : Tab} (ht : Tb w S R b t) (k : Int) (o : Ob) : KyV (putV v t k o) := by
  unfold putV
  split
  · rename_i he
    refine h.keep o ?_
    unfold putE at he
    cases hp : peekR v t k with
    | none => rw [hp] at he; simp at he
    | some q =>
      unfold peekR at hp
      cases ho : v.own k with
      | some z => exact h.ow k (by rw [ho]; simp)
      | none =>
        rw [ho] at hp
        have hat : atO t v.base k ≠ none := fun e => by simp [e, toOb] at hp
        unfold atO at hat
        split at hat
        · have := ht.dom (atC_ne hat); omega
        · exact absurd rfl hat
  · exact h
theorem KyV.make {v : Vw} (h : KyV v) (hm : 0 ≤ v.made) (o : Ob) : KyV (makeV v o) := by
  unfold makeV
  split
  · rename_i hk
    exact KyV.keep (v := ⟨v.base, v.reads, v.own, v.made + 1⟩) ⟨h.rd, h.ow⟩ o (by omega)
  · exact h
/-- The keys of what a view did. -/
def ownK (v : Vw) : List Int := ((List.range 8192).map fun i : Nat => (i : Int) + 1).filter fun k => (v.own k).isSome
def rdK (v : Vw) : List Int := ((List.range 8192).map fun i : Nat => (i : Int) + 1).filter fun k => v.reads k
theorem rise8 (p : Int → Bool) : (((List.range 8192).map fun i : Nat => (i : Int) + 1).filter p).Pairwise fun x y => x < y :=
  List.Pairwise.filter _ (List.pairwise_map.2 (List.Pairwise.imp (fun {a b} (h : a < b) => by omega) List.pairwise_lt_range))
theorem len8 (p : Int → Bool) : (((List.range 8192).map fun i : Nat => (i : Int) + 1).filter p).length ≤ 8192 := Nat.le_trans (List.length_filter_le _ _) (by simp)
theorem mem8 {p : Int → Bool} (hd : ∀ k, p k = true → 1 ≤ k ∧ k ≤ 8192) (k : Int) : k ∈ ((List.range 8192).map fun i : Nat => (i : Int) + 1).filter p ↔ p k = true := by
  rw [List.mem_filter, List.mem_map]
  constructor
  · exact fun h => h.2
  · intro h
    have := hd k h
    exact ⟨⟨(k - 1).toNat, List.mem_range.2 (by omega), by omega⟩, h⟩
def oopsL (v : Vw) (x y : Int) : List Int := (ownK v).filter (inP x y)
theorem okD_own (x y : Int) (ks : List Int) (B : Nat) (pre : List Int) (k : Int) : OwnFrom B (fun (_ : Unit) W => OkD x y ks pre k W) := fun _ _ _ _ hs _ _ => hs
set_option maxHeartbeats 8000000 in
theorem oops_any {w : World} {V Q : Nat → Prop} {b tb : Nat} {v : Vw} (h : Vb w V Q b tb v) (hy : KyV v) (x y : Int) : Calls Tryz.prog 55 #[.pointer (some ⟨b, 0, none⟩), .int .i64 x, .int .i64 y] w (OopP w (oopsL v x y)) := by
  refine (callsIn_wide (n := 20)).1 ?_
  obtain ⟨rm, om, hblk, _, hOM, _⟩ := h.blk
  have lb := lt_of_block hblk
  obtain ⟨pv, hVD⟩ : ∃ pv : Int → Value, ∀ W, Below w.heap.size w W → MapD om (ownK v) pv W := by
    have hmem : ∀ k, k ∈ ownK v ↔ (v.own k).isSome = true := mem8 (fun k hk => hy.ow k (fun e => by rw [e] at hk; simp at hk))
    cases om with
    | none =>
      refine ⟨fun _ => undef, fun W _ => ?_⟩
      have hOM : ∀ k, v.own k = none := hOM
      exact List.eq_nil_iff_forall_not_mem.2 (fun k hk => by have := (hmem k).1 hk; rw [hOM k] at this; simp at this)
    | some mb =>
      obtain ⟨F, q1, q2, q3⟩ := hOM
      have hF : ∀ k, (v.own k).isSome = true ↔ F k ≠ none := fun k => by
        have := q3 k
        cases e : F k with
        | none => rw [e] at this; simp [show v.own k = none from this]
        | some z => rw [e] at this; obtain ⟨o, z1, _⟩ := this; simp [z1]
      refine ⟨fun k => (F k).getD undef, fun W hW => ⟨F, q1.same (hW.block mb q1.lt), fun k hk => hy.ow k (fun e => by have := (hF k).2 hk; rw [e] at this; simp at this), fun k => by rw [hmem k, hF k], fun k hk => ?_⟩⟩
      have := (hF k).1 ((hmem k).1 hk)
      cases e : F k with
      | none => exact absurd e this
      | some z => simp [e]
  have x3 := (view_cells hblk).2.2.2.1
  have hf2 : Fence.wide.fn 56 := trivial
  refine callsIn_of_wp_marks Tryz.func55 rfl trivial ?_ rfl
  simp only [Tryz.ntmps55, List.size_toArray, List.length_cons, List.length_nil, Nat.reduceAdd, Nat.reduceSub, Array.replicate_succ, Array.replicate_zero, List.push_toArray, List.append_toArray, List.nil_append, List.cons_append]
  have lbH : Hid (b < w.heap.size) := lb
  clear hblk lb hOM
  gi_wp2_with (first
    | (gi_at_call 56; refine (did_any _ (some ⟨b, 0, none⟩) x y _).mono ?_; rintro e w' ⟨rfl, rfl⟩))
  have E7 : ((((w.alloc (.cells #[.slice none 0 0] 66)).alloc (.cells #[.pointer (some ⟨b, 0, none⟩)] 28)).alloc (.cells #[.int .i64 x] 2)).alloc (.cells #[.int .i64 y] 2)).heap[w.heap.size]? = some (.cells #[.slice none 0 0] 66 (0, 0)) := old1 (old1 (old1 (new1 _ _) _) _) _
  have E8 : ((((w.alloc (.cells #[.slice none 0 0] 66)).alloc (.cells #[.pointer (some ⟨b, 0, none⟩)] 28)).alloc (.cells #[.int .i64 x] 2)).alloc (.cells #[.int .i64 y] 2)).heap[w.heap.size + 1]? = some (.cells #[.pointer (some ⟨b, 0, none⟩)] 28 (0, 0)) := old1 (old1 (new2 _ _ _) _) _
  have E9 : ((((w.alloc (.cells #[.slice none 0 0] 66)).alloc (.cells #[.pointer (some ⟨b, 0, none⟩)] 28)).alloc (.cells #[.int .i64 x] 2)).alloc (.cells #[.int .i64 y] 2)).heap[w.heap.size + 1 + 1]? = some (.cells #[.int .i64 x] 2 (0, 0)) := old1 (new3 _ _ _ _) _
  have E10 : ((((w.alloc (.cells #[.slice none 0 0] 66)).alloc (.cells #[.pointer (some ⟨b, 0, none⟩)] 28)).alloc (.cells #[.int .i64 x] 2)).alloc (.cells #[.int .i64 y] 2)).heap[w.heap.size + 1 + 1 + 1]? = some (.cells #[.int .i64 y] 2 (0, 0)) := by
    have := new1 (((w.alloc (.cells #[.slice none 0 0] 66)).alloc (.cells #[.pointer (some ⟨b, 0, none⟩)] 28)).alloc (.cells #[.int .i64 x] 2)) (.cells #[.int .i64 y] 2)
    simpa using this
  have BL : Below w.heap.size w ((((w.alloc (.cells #[.slice none 0 0] 66)).alloc (.cells #[.pointer (some ⟨b, 0, none⟩)] 28)).alloc (.cells #[.int .i64 x] 2)).alloc (.cells #[.int .i64 y] 2)) := below_size (below_size (below_size box_below box_below.size box_below) (by simp; omega) box_below) (by simp; omega) box_below
  obtain ⟨Wl, hWl⟩ : ∃ Wl, ((((w.alloc (.cells #[.slice none 0 0] 66)).alloc (.cells #[.pointer (some ⟨b, 0, none⟩)] 28)).alloc (.cells #[.int .i64 x] 2)).alloc (.cells #[.int .i64 y] 2)) = Wl := ⟨_, rfl⟩
  rw [hWl] at E7 E8 E9 E10 BL ⊢
  clear hWl
  have n1 : w.heap.size ≤ w.heap.size + 1 := by omega
  have d1 : w.heap.size + 1 ≠ w.heap.size := by omega
  have d2 : w.heap.size + 1 + 1 ≠ w.heap.size := by omega
  have d3 : w.heap.size + 1 + 1 + 1 ≠ w.heap.size := by omega
  generalize w.heap.size + 1 + 1 + 1 = b3 at *
  generalize w.heap.size + 1 + 1 = b2 at *
  generalize w.heap.size + 1 = b1 at *
  obtain ⟨b7, hb7⟩ : ∃ q, q = w.heap.size := ⟨_, rfl⟩
  rw [← hb7] at E7 d1 d2 d3 ⊢
  have n7 : w.heap.size ≤ b7 := Nat.le_of_eq hb7.symm
  clear hb7
  have l7 := lt_of_block E7
  have l1 := lt_of_block E8
  have l2 := lt_of_block E9
  have l3 := lt_of_block E10
  have lw := BL.size
  refine rangeW (F := Fence.wide) (n := 20) rfl (by decide) (gf := 74) (lb := #[.pointer (some ⟨b1, 0, none⟩), .pointer (some ⟨b2, 0, none⟩), .pointer (some ⟨b3, 0, none⟩)]) rfl trivial (enters_of Tryz.func74 (by kernel_rfl) rfl) (did_seq (n := 19) (by decide) (b1 := b1) (b2 := b2) (b3 := b3) (b := b) (x := x) (y := y) (om := om) (ks := ownK v) (pv := pv) (rise8 _) (len8 _)) (fun _ => rfl)
    (fun pre W => (∃ v, W.heap[b7]? = some (.cells #[v] 66 (0, 0)) ∧ W.ownsRow Wl.heap.size 2 1 v pre.length (pre.map (Value.int .i64))) ∧ Below w.heap.size w W ∧ W.heap[b1]? = some (.cells #[.pointer (some ⟨b, 0, none⟩)] 28 (0, 0)) ∧ W.heap[b2]? = some (.cells #[.int .i64 x] 2 (0, 0)) ∧ W.heap[b3]? = some (.cells #[.int .i64 y] 2 (0, 0)) ∧ Wl.heap.size ≤ W.heap.size ∧ pre.length ≤ 8193)
    (fun _ _ _ => False) (fun W k => ∃ v, W.heap[b7]? = some (.cells #[v] 66 (0, 0)) ∧ v.ownBlock = some k) ?hI (fun _ _ _ _ _ hs _ _ => hs) ?hV ?hO1 ?hO2 (fun pre k => okD_own x y (ownK v) _ pre k) ⟨⟨_, E7, World.ownsRow_nil _ _ _ _⟩, BL, E8, E9, E10, Nat.le_refl _, by simp⟩
    (fun k a' _ => a' = { tmps := #[.pointer (some ⟨b, 0, none⟩), .int .i64 x, .int .i64 y, undef, undef, undef, .slice none 0 0, .pointer (some ⟨b7, 0, none⟩), .int .i64 k, .pointer (some ⟨b, 0, none⟩), .int .i64 x, .int .i64 y, .func (.func 74) #[] #[.pointer (some ⟨b1, 0, none⟩), .pointer (some ⟨b2, 0, none⟩), .pointer (some ⟨b3, 0, none⟩)], .int .i64 k, pv k, undef, undef, undef, undef, undef], defers := [] }) (fun _ _ _ _ _ _ hs _ _ => hs) ?assign ?body ?done ?stop
  case hI =>
    rintro pre A B row ⟨⟨v, q1, q2⟩, q3, q4, q5, q5', q6, q7⟩ hg hr
    have low : ∀ q, q < Wl.heap.size → B.heap[q]? = A.heap[q]? := fun q hq => hg.block q (by omega) (fun e => by have := (hr q e.symm).1; omega)
    refine ⟨⟨v, (low b7 l7).trans q1, own_same q2 (fun g hg' => ?_)⟩, ⟨hg.os.trans q3.os, hg.tape.trans q3.tape, hg.output.trans q3.output, Nat.le_trans q3.size hg.size, fun q hq => (low q (by omega)).trans (q3.block q hq)⟩, (low b1 l1).trans q4, (low b2 l2).trans q5, (low b3 l3).trans q5', Nat.le_trans q6 hg.size, q7⟩
    obtain ⟨_, cur, hh⟩ := own_block q2 hg'
    refine hg.block g (lt_of_block hh) (fun e => ?_)
    obtain ⟨_, o, z1, z2⟩ := hr g e.symm
    rw [hh] at z1
    cases z1
    cases z2
  case hV =>
    rintro pre W ⟨_, q3, q4, q5, q5', q6, _⟩
    exact ⟨by rw [cell_of_row W b1 _ _ _ _ q4]; rfl, by rw [cell_of_row W b2 _ _ _ _ q5]; rfl, by rw [cell_of_row W b3 _ _ _ _ q5']; rfl, (q3.cell (p := ⟨b, 3, none⟩) lbH.out).trans x3, hVD W q3⟩
  case hO1 =>
    rintro pre W ⟨⟨v, q1, q2⟩, _⟩ k ⟨v', z1, z2⟩
    rw [q1] at z1
    cases z1
    obtain ⟨_, cur, hh⟩ := own_block q2 z2
    exact lt_of_block hh
  case hO2 =>
    rintro pre W W2 row ⟨⟨v, q1, q2⟩, _, _, _, _, q6, _⟩ hg hr k ⟨v', z1, z2⟩
    refine ⟨v', ?_, z2⟩
    rw [← hg.block b7 (by omega) (fun e => by have := (hr b7 e.symm).1; omega)]
    exact z1
  case assign =>
    rintro l pre k W K hi hok hK
    gi_wp2
    exact hK _ _ (KeepsFrom.refl _ _) ⟨Nat.le_refl _, fun _ _ _ _ _ _ => rfl, fun _ hk => .inl hk⟩ hi hok rfl
  case stop =>
    rintro D c' pre W _ _ hx
    exact hx.elim
  case done =>
    rintro D xs W hD hxs ⟨⟨v', q1, q2⟩, q3, _, _, _, q6, _⟩ hK
    rw [hxs] at q2
    obtain ⟨a, cap, rfl⟩ := own_slice q2
    have hc7 : W.cell? ⟨b7, 0, none⟩ = some (.slice a ((ownK v).filter (inP x y)).length cap) := by rw [cell_of_row W b7 _ _ _ _ q1]; rfl
    gi_wp2
    refine ⟨by simp, .inl ⟨_, _, rfl, run_takeDeferred hK, ?_⟩⟩
    refine ⟨_, results_tmp rfl _ _ _, a, _, cap, rfl, rfl, ?_, ?_⟩
    · exact own_mono (ownsRow_putObj q2 _ hK rfl) (by omega)
    · exact ⟨q3.os, q3.tape, q3.output, Nat.le_trans q3.size (grownBy_putObj' W D _).size, fun q hq => (World.putObj_heap_other (by omega)).trans (q3.block q hq)⟩
  case body =>
    rintro l pre k a' W ⟨⟨v', q1, q2⟩, q3, q4, q5, q5', q6, q7⟩ hok rfl
    have hlen : pre.length + 1 ≤ 8193 := by
      obtain ⟨j, _, e⟩ := hok
      have h1 : pre.length ≤ (ownK v).length := by rw [e]; exact Nat.le_trans (List.length_filter_le _ _) (by rw [List.length_take]; omega)
      have h2 : (ownK v).length ≤ 8192 := len8 _
      omega
    obtain ⟨a5, cap5, rfl⟩ := own_slice q2
    obtain ⟨m5, hm5⟩ : ∃ q, q = pre.length := ⟨_, rfl⟩
    rw [← hm5] at q1 q2
    have hc7 : W.cell? ⟨b7, 0, none⟩ = some (.slice a5 m5 cap5) := by rw [cell_of_row W b7 _ _ _ _ q1]; rfl
    have own8 : (W.alloc (.cells #[.int .i64 k] 2)).ownsRow Wl.heap.size 2 1 (.slice a5 m5 cap5) pre.length (pre.map (Value.int .i64)) := by
      rw [← hm5]
      refine own_same q2 (fun g hg => ?_)
      obtain ⟨_, cur, hh⟩ := own_block q2 hg
      exact (box_below (o := .cells #[.int .i64 k] 2)).block g (lt_of_block hh)
    obtain ⟨a', n', c', w', hr, hO, hG, hP⟩ := app_i64 (W.alloc (.cells #[.int .i64 k] 2)) 66 Wl.heap.size (.slice a5 m5 cap5) pre own8 k W.heap.size (by rw [cell_of_row _ W.heap.size _ _ _ _ (new1 W (.cells #[.int .i64 k] 2))]; rfl) (by omega) (by simp; omega)
    have hge : ∀ g, (Value.slice a5 m5 cap5).ownBlock = some g → Wl.heap.size ≤ g := fun g hg => (own_block q2 hg).1
    have low : ∀ q, q < Wl.heap.size → w'.heap[q]? = W.heap[q]? := fun q hq => (hG.block q (by simp; omega) (fun e => by have := hge q e.symm; omega)).trans (box_below.block q (by omega))
    have E5' : w'.heap[b7]? = some (.cells #[.slice a5 m5 cap5] 66 (0, 0)) := (low b7 l7).trans q1
    have hc5' : w'.cell? ⟨b7, 0, none⟩ = some (.slice a5 m5 cap5) := by rw [cell_of_row w' b7 _ _ _ _ E5']; rfl
    have gr := hG.size
    clear hm5
    have yf := frozen_of_row w' b7 0 _ _ E5'
    gi_wp2_with (gi_at_builtin; refine appIn _ rfl _ _ 66 rfl _ _ rfl rfl _ _ hr ?_)
    have X5 : (w'.setCell ⟨b7, 0, none⟩ (.slice a' n' c')).heap[b7]? = some (.cells #[.slice a' n' c'] 66 (0, 0)) := by rw [heap_setCell_same w' b7 0 _ _ _ E5']; rfl
    have oth : ∀ q, q ≠ b7 → (w'.setCell ⟨b7, 0, none⟩ (.slice a' n' c')).heap[q]? = w'.heap[q]? := fun q hq => heap_setCell_other w' ⟨b7, 0, none⟩ q _ hq
    have sz : (w'.setCell ⟨b7, 0, none⟩ (.slice a' n' c')).heap.size = w'.heap.size := by simp
    have gr' : W.heap.size ≤ w'.heap.size := Nat.le_trans (by simp) gr
    have keep : ∀ q, q < W.heap.size → (Value.slice a5 m5 cap5).ownBlock ≠ some q → w'.heap[q]? = W.heap[q]? := fun q hq hn => (hG.block q (by simp; omega) (fun e => hn e.symm)).trans (box_below.block q hq)
    refine ⟨⟨by rw [sz]; exact gr', fun q o hq ho hc => ?_⟩, ⟨by rw [sz]; exact gr', fun q cur e hq hn hh => ?_, ?_⟩, ⟨_, X5, ?_⟩, ?_, ?_, ?_, ?_, ?_, ?_⟩
    · rw [oth q (by omega), keep q (lt_of_block' ho) (fun e => ?_)]
      · exact ho
      · obtain ⟨_, cur, hh⟩ := own_block q2 e
        rw [ho] at hh
        cases hh
        cases hc
    · rw [oth q (by omega), keep q (lt_of_block' hh) (fun e => hn ⟨_, q1, e⟩)]
    · rintro k ⟨v', z1, z2⟩
      rw [X5] at z1
      cases z1
      rcases hP k z2 with z | z
      · exact .inl ⟨_, q1, z⟩
      · exact .inr (Nat.le_trans (by simp) z)
    · refine own_same (by simpa using hO) (fun g hg => oth g (fun e => ?_))
      have := (own_block hO hg).1
      omega
    · have B1 : Below w.heap.size w w' := ⟨hG.os.trans q3.os, hG.tape.trans q3.tape, hG.output.trans q3.output, Nat.le_trans q3.size gr', fun q hq => (low q (by omega)).trans (q3.block q hq)⟩
      exact B1.setCell (p := ⟨b7, 0, none⟩) n7 _
    · rw [oth b1 d1, low b1 l1]; exact q4
    · rw [oth b2 d2, low b2 l2]; exact q5
    · rw [oth b3 d3, low b3 l3]; exact q5'
    · rw [sz]; omega
    · simpa using hlen
theorem news_any {w : World} {V Q : Nat → Prop} {b tb : Nat} {v : Vw} (h : Vb w V Q b tb v) (hy : KyV v) : Calls Tryz.prog 30 #[.pointer (some ⟨b, 0, none⟩)] w (OopP w (oopsL v 4097 8192)) := by
  go_enter Tryz.func30, Tryz.ntmps30
  go_wp2_with fail
  refine (oops_any h hy 4097 8192).mono ?_
  rintro e w' ⟨a, n, cap, rfl, rfl, h2, h3⟩
  go_wp2
  go_ret
  exact ⟨a, _, cap, rfl, rfl, h2, h3⟩
theorem reads_any {w : World} {V Q : Nat → Prop} {b tb : Nat} {v : Vw} (h : Vb w V Q b tb v) (hy : KyV v) : Calls Tryz.prog 26 #[.pointer (some ⟨b, 0, none⟩)] w (OopP w (rdK v)) := by
  obtain ⟨rm, om, hblk, hRM, _, _⟩ := h.blk
  obtain ⟨x0, x1, x2, x3, x4⟩ := view_cells hblk
  have cK := callsIn_wide.1 (keys_callR 20 rm w)
  have hc : (w.alloc (.cells #[.map rm] 75)).cell? ⟨w.heap.size, 0, none⟩ = some (.map rm) := by simp
  have hlt : w.heap.size < (w.alloc (.cells #[.map rm] 75)).heap.size := by simp
  have B1 : Below w.heap.size w (w.alloc (.cells #[.map rm] 75)) := box_below
  have cS : Calls Tryz.prog 53 #[.func (.func 73) #[] #[.pointer (some ⟨w.heap.size, 0, none⟩)]] (w.alloc (.cells #[.map rm] 75)) (OopP w (rdK v)) := by
    have hmem : ∀ k, k ∈ rdK v ↔ v.reads k = true := mem8 (fun k hk => by have := hy.rd k hk; omega)
    cases rm with
    | none =>
      have hRM : ∀ k, v.reads k = false := hRM
      refine (callsIn_wide.1 (sorted_call_nilR 20 (by decide) hlt hc)).mono ?_
      rintro e w' ⟨a, nn, c, ks', rfl, rfl, ⟨_, hk⟩, hrow, hb⟩
      have e1 : ks' = [] := List.eq_nil_iff_forall_not_mem.2 (fun k hk' => (hk k).1 hk' rfl)
      have e2 : rdK v = [] := List.eq_nil_iff_forall_not_mem.2 (fun k hk' => by have := (hmem k).1 hk'; rw [hRM k] at this; cases this)
      subst e1
      exact ⟨a, _, c, rfl, by rw [e2], by rw [e2]; exact own_mono hrow (by simp), below_size B1 B1.size hb⟩
    | some mb =>
      obtain ⟨F, h1, _, h3⟩ := hRM
      have h1' : IsMap (w.alloc (.cells #[.map (some mb)] 75)) mb F := h1.same (Below.heap_alloc _ _ _ h1.lt)
      refine (callsIn_wide.1 (sorted_callR 20 (by decide) hlt hc h1' (fun k hk => by have := hy.rd k (by rw [h3 k]; cases e : F k with | none => exact absurd e hk | some z => rfl); omega))).mono ?_
      rintro e w' ⟨a, nn, c, ks', rfl, rfl, ⟨hp, hk⟩, hrow, hb⟩
      have : ks' = rdK v := keys_one hp (rise8 _) (fun k => by
        rw [hk k, hmem k, h3 k]
        cases e : F k <;> simp)
      subst this
      exact ⟨a, _, c, rfl, rfl, own_mono hrow (by simp), below_size B1 B1.size hb⟩
  clear hblk hRM hc hlt B1
  go_enter Tryz.func26, Tryz.ntmps26
  go_wp2_with fail
  refine cK.mono ?_
  rintro e w1 ⟨rfl, rfl⟩
  go_wp2_with fail
  refine cS.mono ?_
  rintro e w2 ⟨a, n, cap, rfl, rfl, h2, h3⟩
  go_wp2
  go_ret
  exact ⟨a, _, cap, rfl, rfl, h2, h3⟩
end Go.Proofs.YteomolihandfnaaGreat
