/- What is changed in a view: Changed, Writes. -/
import Derived.Test.YteomolihandfnaaGreatDnw
import Derived.Test.YteomolihandfnaaGreatAnyIn
namespace Go.Proofs.YteomolihandfnaaGreat
open Go.RowKit Go.Shelf Go.Sort
attribute [local go_sem] Oper.semAt_some
set_option maxRecDepth 100000
/-- The rows of a change. -/
def Rws (s : Cs) (g : Nat) : Prop := (Value.slice s.sa s.sn s.sc).ownBlock = some g ∨ (Value.slice s.ba s.bn s.bc).ownBlock = some g
def Apt (s t : Cs) : Prop := ∀ g, Rws s g → ¬ Rws t g
structure ElO (w : World) (base : Nat) (s : Cs) : Prop where
  cls : -9223372036854775808 ≤ s.x.cls ∧ s.x.cls ≤ 9223372036854775807
  oop : -9223372036854775808 ≤ s.x.oop ∧ s.x.oop ≤ 9223372036854775807
  v : OwnV w base (.slice s.sa s.sn s.sc) s.x.vs
  b : OwnB w base (.slice s.ba s.bn s.bc) s.x.bs
theorem ElO.rows {w : World} {base : Nat} {s : Cs} (h : ElO w base s) {g : Nat} (hg : Rws s g) : base ≤ g ∧ ∃ cur e, w.heap[g]? = some (.cells cur e (0, 0)) ∧ e ≠ 96 := by
  rcases hg with hg | hg
  · obtain ⟨h1, cur, h2⟩ := own_block h.v.1 hg
    exact ⟨h1, cur, _, h2, by decide⟩
  · obtain ⟨h1, cur, h2⟩ := own_block h.b.1 hg
    exact ⟨h1, cur, _, h2, by decide⟩
theorem ElO.same {w w' : World} {base : Nat} {s : Cs} (h : ElO w base s) (hk : ∀ g, Rws s g → w'.heap[g]? = w.heap[g]?) : ElO w' base s := ⟨h.cls, h.oop, h.v.same (fun g hg => hk g (.inl hg)), h.b.same (fun g hg => hk g (.inr hg))⟩
theorem ElO.mono {w : World} {base b : Nat} {s : Cs} (h : ElO w base s) (hb : b ≤ base) : ElO w b s := ⟨h.cls, h.oop, h.v.mono hb, h.b.mono hb⟩
/-- A row of changes whose rows lie apart. -/
def OwnP (w : World) (base : Nat) (v : Value) (xs : List Ch) : Prop := ∃ ss : List Cs, w.ownsRow base 96 5 v ss.length (flatC ss) ∧ ss.map Cs.x = xs ∧ (∀ s ∈ ss, ElO w base s) ∧ ss.Pairwise Apt
theorem ownP_nil (w : World) (base : Nat) : OwnP w base (.slice none 0 0) [] := ⟨[], World.ownsRow_nil _ _ _ _, rfl, by simp, List.Pairwise.nil⟩
theorem OwnP.shape {w : World} {base : Nat} {v : Value} {xs : List Ch} (h : OwnP w base v xs) : ∃ a n c, v = .slice a n c ∧ n = xs.length := by
  obtain ⟨ss, h1, rfl, _⟩ := h
  obtain ⟨a, c, e⟩ := own_slice h1
  exact ⟨a, _, c, e, by rw [List.length_map]⟩
theorem OwnP.cellsKept {w w' : World} {base : Nat} {v : Value} {xs : List Ch} (h : OwnP w base v xs) (k : ∀ (g : Nat) (cur : Array Value) (e : Nat), w.heap[g]? = some (Obj.cells cur e (0, 0)) → base ≤ g → w'.heap[g]? = w.heap[g]?) : OwnP w' base v xs := by
  obtain ⟨ss, h1, h2, h3, h4⟩ := h
  refine ⟨ss, own_same h1 (fun g hg => ?_), h2, fun s hs => (h3 s hs).same (fun g hg => ?_), h4⟩
  · obtain ⟨hb, cur, hh⟩ := own_block h1 hg
    exact k g cur _ hh hb
  · obtain ⟨hb, cur, e, hh, _⟩ := (h3 s hs).rows hg
    exact k g cur e hh hb
theorem OwnP.mono {w : World} {base b : Nat} {v : Value} {xs : List Ch} (h : OwnP w base v xs) (hb : b ≤ base) : OwnP w b v xs := by
  obtain ⟨ss, h1, h2, h3, h4⟩ := h
  exact ⟨ss, own_mono h1 hb, h2, fun s hs => (h3 s hs).mono hb, h4⟩
theorem OwnP.below {w w' : World} {base : Nat} {v : Value} {xs : List Ch} (h : OwnP w base v xs) (hb : Below w.heap.size w w') : OwnP w' base v xs := h.cellsKept (fun g _ _ hh _ => hb.block g (lt_of_block' hh))
theorem OwnP.block {w : World} {base : Nat} {v : Value} {xs : List Ch} (h : OwnP w base v xs) {g : Nat} (hg : v.ownBlock = some g) : base ≤ g ∧ ∃ cur, w.heap[g]? = some (.cells cur 96 (0, 0)) := by
  obtain ⟨ss, h1, _⟩ := h
  exact own_block h1 hg
theorem app_chO {W : World} (w : World) (ty : Nat) {base : Nat} {v : Value} {xs : List Ch} (h : OwnP W base v xs) (hb : Below W.heap.size W w) (y : Cs) (nb : Nat) (hc : ∀ j u, y.cells[j]? = some u → w.cell? ⟨nb, j, none⟩ = some u) (hy : ElO w W.heap.size y) (hlen : xs.length ≤ 1000000000) (hbase : base ≤ W.heap.size) :
    ∃ a' n' c' w', (Builtin.append_ #[56, 56] ty #[v, .slice (some ⟨nb, 0, none⟩) 1 1]).run Tryz.prog w = .ok (.slice a' n' c') w' ∧ OwnP w' base (.slice a' n' c') (xs ++ [y.x]) ∧ w.grownBy w' v.ownBlock ∧ (∀ g, (Value.slice a' n' c').ownBlock = some g → v.ownBlock = some g ∨ w.heap.size ≤ g) := by
  obtain ⟨i, hi, hz, hs, hbb⟩ := info_parts Tryz.info96
  obtain ⟨ss, q1, rfl, h3, h4⟩ := h
  rw [List.length_map] at hlen
  obtain ⟨a', n', c', w', hr, o1, o2, o3⟩ := app_row w 56 ty 96 Tryz.underlying56 hi hz hs hbb rfl (by decide) (by decide) (own_below q1 hb) nb y.cells rfl hc (fun u hu => flatC_one [y] u (by simpa [flatC] using hu)) hlen (Nat.le_trans hbase hb.size)
  have keep : ∀ (g : Nat) (cur : Array Value) (e : Nat), w.heap[g]? = some (Obj.cells cur e (0, 0)) → e ≠ 96 → w'.heap[g]? = w.heap[g]? := fun g cur e hg he => o2.block g (lt_of_block' hg) (fun k => by
    obtain ⟨_, cur', hh⟩ := own_block (own_below q1 hb) k.symm
    rw [hh] at hg
    cases hg
    exact he rfl)
  refine ⟨a', n', c', w', hr, ⟨ss ++ [y], ?_, by simp, fun s hs => ?_, ?_⟩, o2, o3⟩
  · have e2 : flatC ss ++ y.cells = flatC (ss ++ [y]) := by rw [flatC_app]; simp [flatC]
    rw [← e2, List.length_append]
    exact o1
  · rcases List.mem_append.1 hs with hs | hs
    · have h5 := (h3 s hs).same (w' := w) (fun g hg => by obtain ⟨_, cur, e, hh, _⟩ := (h3 s hs).rows hg; exact hb.block g (lt_of_block' hh))
      exact h5.same (fun g hg => by obtain ⟨_, cur, e, hh, he⟩ := h5.rows hg; exact keep g cur e hh he)
    · rw [List.mem_singleton] at hs
      subst hs
      exact (hy.same (fun g hg => by obtain ⟨_, cur, e, hh, he⟩ := hy.rows hg; exact keep g cur e hh he)).mono hbase
  · rw [List.pairwise_append]
    refine ⟨h4, List.pairwise_singleton _ _, fun s hs t ht g hg hg' => ?_⟩
    rw [List.mem_singleton] at ht
    subst ht
    obtain ⟨_, cur, e, hh, _⟩ := (h3 s hs).rows hg
    have := lt_of_block' hh
    have := (hy.rows hg').1
    omega
def chF (v : Vw) (k : Int) : Ch := chO k ((v.own k).getD ⟨0, [], []⟩)
def chaL (v : Vw) : List Ch := (oopsL v 1 4096).map (chF v)
theorem writes_any {w : World} {V Q : Nat → Prop} {b tb : Nat} {v : Vw} (h : Vb w V Q b tb v) (hy : KyV v) : Calls Tryz.prog 28 #[.pointer (some ⟨b, 0, none⟩)] w (OopP w (oopsL v 1 4096)) := by
  go_enter Tryz.func28, Tryz.ntmps28
  go_wp2_with fail
  refine (oops_any h hy 1 4096).mono ?_
  rintro e w' ⟨a, n, cap, rfl, rfl, h2, h3⟩
  go_wp2
  go_ret
  exact ⟨a, _, cap, rfl, rfl, h2, h3⟩
set_option maxHeartbeats 8000000 in
theorem changed_any {w : World} {V Q : Nat → Prop} {b tb : Nat} {v : Vw} (h : Vb w V Q b tb v) (hy : KyV v) : Calls Tryz.prog 33 #[.pointer (some ⟨b, 0, none⟩)] w fun e w' => ∃ a n c, e = .returned (.slice a n c) ∧ OwnP w' w.heap.size (.slice a n c) (chaL v) ∧ Below w.heap.size w w' := by
  refine (callsIn_wide (n := 20)).1 ?_
  obtain ⟨rm, om, hblk, _, hOM, _⟩ := h.blk
  have lb := lt_of_block hblk
  have hmem : ∀ k, k ∈ ownK v ↔ (v.own k).isSome = true := mem8 (fun k hk => hy.ow k (fun e => by rw [e] at hk; simp at hk))
  obtain ⟨pv, hVD, hPv⟩ : ∃ pv : Int → Value, (∀ W, Below w.heap.size w W → MapD om (ownK v) pv W) ∧ ∀ k, k ∈ ownK v → ∃ o sa sn sc ba bn bc, v.own k = some o ∧ pv k = .agg #[.int .i64 o.cls, .slice sa sn sc, .slice ba bn bc] ∧ IsO w o.cls sa sn sc ba bn bc o.vs o.bs ∧ sn ≤ 8796093022208 ∧ bn ≤ 140737488355328 := by
    cases om with
    | none =>
      refine ⟨fun _ => undef, fun W _ => ?_, fun k hk => ?_⟩
      · have hOM : ∀ k, v.own k = none := hOM
        exact List.eq_nil_iff_forall_not_mem.2 (fun k hk => by have := (hmem k).1 hk; rw [hOM k] at this; simp at this)
      · have hOM : ∀ k, v.own k = none := hOM
        have := (hmem k).1 hk
        rw [hOM k] at this
        simp at this
    | some mb =>
      obtain ⟨F, q1, q2, q3⟩ := hOM
      have hF : ∀ k, (v.own k).isSome = true ↔ F k ≠ none := fun k => by
        have := q3 k
        cases e : F k with
        | none => rw [e] at this; simp [show v.own k = none from this]
        | some z => rw [e] at this; obtain ⟨o, z1, _⟩ := this; simp [z1]
      refine ⟨fun k => (F k).getD undef, fun W hW => ⟨F, q1.same (hW.block mb q1.lt), fun k hk => hy.ow k (fun e => by have := (hF k).2 hk; rw [e] at this; simp at this), fun k => by rw [hmem k, hF k], fun k hk => ?_⟩, fun k hk => ?_⟩
      · have := (hF k).1 ((hmem k).1 hk)
        cases e : F k with
        | none => exact absurd e this
        | some z => simp [e]
      · have h0 := (hF k).1 ((hmem k).1 hk)
        have h1 := q3 k
        cases e : F k with
        | none => exact absurd e h0
        | some z =>
          rw [e] at h1
          obtain ⟨o, z1, sa, sn, sc, ba, bn, bc, rfl, z3, z4, _⟩ := h1
          have hG := h.good k o z1
          have io : IsO w o.cls sa sn sc ba bn bc o.vs o.bs := ⟨by have := (okWO_len hG).2.2; omega, z3.isV, z4.isB⟩
          have hL := okWO_len hG
          refine ⟨o, sa, sn, sc, ba, bn, bc, z1, by simp [e], io, ?_, ?_⟩
          · have h1 := io.v.size; omega
          · have h1 := io.b.size; omega
  have x3 := (view_cells hblk).2.2.2.1
  have hf2 : Fence.wide.fn 56 := trivial
  refine callsIn_of_wp_marks Tryz.func33 rfl trivial ?_ rfl
  simp only [Tryz.ntmps33, List.size_toArray, List.length_cons, List.length_nil, Nat.reduceAdd, Nat.reduceSub, Array.replicate_succ, Array.replicate_zero, List.push_toArray, List.append_toArray, List.nil_append, List.cons_append]
  have lbH : Hid (b < w.heap.size) := lb
  clear hblk lb hOM
  gi_wp2_with (first
    | (gi_at_call 56; refine (did_any _ (some ⟨b, 0, none⟩) 1 4096 _).mono ?_; rintro e w' ⟨rfl, rfl⟩))
  obtain ⟨Wl, hWl⟩ : ∃ Wl, ((((w.alloc (.cells #[.slice none 0 0] 56)).alloc (.cells #[.pointer (some ⟨b, 0, none⟩)] 28)).alloc (.cells #[.int .i64 1] 2)).alloc (.cells #[.int .i64 4096] 2)) = Wl := ⟨_, rfl⟩
  have E7 : Wl.heap[w.heap.size]? = some (.cells #[.slice none 0 0] 56 (0, 0)) := by rw [← hWl]; exact old1 (old1 (old1 (new1 _ _) _) _) _
  have E8 : Wl.heap[w.heap.size + 1]? = some (.cells #[.pointer (some ⟨b, 0, none⟩)] 28 (0, 0)) := by rw [← hWl]; exact old1 (old1 (new2 _ _ _) _) _
  have E9 : Wl.heap[w.heap.size + 1 + 1]? = some (.cells #[.int .i64 1] 2 (0, 0)) := by rw [← hWl]; exact old1 (new3 _ _ _ _) _
  have E10 : Wl.heap[w.heap.size + 1 + 1 + 1]? = some (.cells #[.int .i64 4096] 2 (0, 0)) := by
    rw [← hWl]
    have := new1 (((w.alloc (.cells #[.slice none 0 0] 56)).alloc (.cells #[.pointer (some ⟨b, 0, none⟩)] 28)).alloc (.cells #[.int .i64 1] 2)) (.cells #[.int .i64 4096] 2)
    simpa using this
  have BL : Below w.heap.size w Wl := by rw [← hWl]; exact below_size (below_size (below_size box_below box_below.size box_below) (by simp; omega) box_below) (by simp; omega) box_below
  rw [hWl]
  clear hWl
  have n1 : w.heap.size ≤ w.heap.size + 1 := by omega
  have d1 : w.heap.size + 1 ≠ w.heap.size := by omega
  have d2 : w.heap.size + 1 + 1 ≠ w.heap.size := by omega
  have d3 : w.heap.size + 1 + 1 + 1 ≠ w.heap.size := by omega
  generalize w.heap.size + 1 + 1 + 1 = b3 at *
  generalize w.heap.size + 1 + 1 = b2 at *
  generalize w.heap.size + 1 = b1 at *
  obtain ⟨br, hbr⟩ : ∃ q, q = w.heap.size := ⟨_, rfl⟩
  rw [← hbr] at E7 d1 d2 d3 ⊢
  have n7 : w.heap.size ≤ br := Nat.le_of_eq hbr.symm
  clear hbr
  have l7 := lt_of_block E7
  have l1 := lt_of_block E8
  have l2 := lt_of_block E9
  have l3 := lt_of_block E10
  have lw := BL.size
  have hI : OwnFrom Wl.heap.size (fun (pre : List Int) W => (∃ v', W.heap[br]? = some (.cells #[v'] 56 (0, 0)) ∧ OwnP W Wl.heap.size v' (pre.map (chF v))) ∧ Below w.heap.size w W ∧ W.heap[b1]? = some (.cells #[.pointer (some ⟨b, 0, none⟩)] 28 (0, 0)) ∧ W.heap[b2]? = some (.cells #[.int .i64 1] 2 (0, 0)) ∧ W.heap[b3]? = some (.cells #[.int .i64 4096] 2 (0, 0)) ∧ Wl.heap.size ≤ W.heap.size ∧ pre.length ≤ 8193) := by
    rintro pre A B row ⟨⟨v', q1, q2⟩, q3, q4, q5, q5', q6, q7⟩ hg hr
    have low : ∀ q, q < Wl.heap.size → B.heap[q]? = A.heap[q]? := fun q hq => hg.block q (by omega) (fun e => by have := (hr q e.symm).1; omega)
    refine ⟨⟨v', (low br l7).trans q1, q2.cellsKept (fun g cur e hh _ => ?_)⟩, ⟨hg.os.trans q3.os, hg.tape.trans q3.tape, hg.output.trans q3.output, Nat.le_trans q3.size hg.size, fun q hq => (low q (by omega)).trans (q3.block q hq)⟩, (low b1 l1).trans q4, (low b2 l2).trans q5, (low b3 l3).trans q5', Nat.le_trans q6 hg.size, q7⟩
    refine hg.block g (lt_of_block hh) (fun e => ?_)
    obtain ⟨_, o, z1, z2⟩ := hr g e.symm
    rw [hh] at z1
    cases z1
    cases z2
  refine rangeW (F := Fence.wide) (n := 20) rfl (by decide) (gf := 74) (lb := #[.pointer (some ⟨b1, 0, none⟩), .pointer (some ⟨b2, 0, none⟩), .pointer (some ⟨b3, 0, none⟩)]) rfl trivial (enters_of Tryz.func74 (by kernel_rfl) rfl) (did_seq (n := 19) (by decide) (b1 := b1) (b2 := b2) (b3 := b3) (b := b) (x := 1) (y := 4096) (om := om) (ks := ownK v) (pv := pv) (rise8 _) (len8 _)) (fun _ => rfl)
    _ (fun _ _ _ => False) (fun W k => ∃ v, W.heap[br]? = some (.cells #[v] 56 (0, 0)) ∧ v.ownBlock = some k) hI (fun _ _ _ _ _ hs _ _ => hs) ?hV ?hO1 ?hO2 (fun pre k => okD_own 1 4096 (ownK v) _ pre k) ⟨⟨_, E7, ownP_nil _ _⟩, BL, E8, E9, E10, Nat.le_refl _, by simp⟩
    (fun k a' W' => ∃ bo c0 v1 v2, pv k = .agg #[.int .i64 c0, v1, v2] ∧ W'.heap[bo]? = some (objB c0 v1 v2) ∧ a' = { tmps := #[.pointer (some ⟨b, 0, none⟩), undef, .slice none 0 0, .pointer (some ⟨br, 0, none⟩), .int .i64 k, .pointer (some ⟨bo, 0, none⟩), .pointer (some ⟨b, 0, none⟩), .func (.func 74) #[] #[.pointer (some ⟨b1, 0, none⟩), .pointer (some ⟨b2, 0, none⟩), .pointer (some ⟨b3, 0, none⟩)], .int .i64 k, pv k, undef, undef, undef, undef, undef, undef, undef, undef], defers := [] }) ?hAx ?assign ?body ?done ?stop
  case hV =>
    rintro pre W ⟨_, q3, q4, q5, q5', q6, _⟩
    exact ⟨by rw [cell_of_row W b1 _ _ _ _ q4]; rfl, by rw [cell_of_row W b2 _ _ _ _ q5]; rfl, by rw [cell_of_row W b3 _ _ _ _ q5']; rfl, (q3.cell (p := ⟨b, 3, none⟩) lbH.out).trans x3, hVD W q3⟩
  case hO1 =>
    rintro pre W ⟨⟨v', q1, q2⟩, _⟩ k ⟨v'', z1, z2⟩
    rw [q1] at z1
    cases z1
    obtain ⟨_, cur, hh⟩ := q2.block z2
    exact lt_of_block hh
  case hO2 =>
    rintro pre W W2 row ⟨⟨v', q1, q2⟩, _, _, _, _, q6, _⟩ hg hr k ⟨v'', z1, z2⟩
    refine ⟨v'', ?_, z2⟩
    rw [← hg.block br (by omega) (fun e => by have := (hr br e.symm).1; omega)]
    exact z1
  case hAx =>
    rintro x a' _ A B row ⟨bo, c0, v1, v2, k1, k2, k3⟩ hg hr
    refine ⟨bo, c0, v1, v2, k1, (hg.block bo (lt_of_block' k2) (fun e => ?_)).trans k2, k3⟩
    obtain ⟨_, o, z1, z2⟩ := hr bo e.symm
    rw [k2] at z1
    cases z1
    cases z2
  case assign =>
    rintro l pre k W K hi hok hK
    obtain ⟨o, sa, sn, sc, ba, bn, bq, _, o3, o4, _⟩ := hPv k (by obtain ⟨j, hj, _⟩ := hok; exact List.mem_of_getElem? hj)
    rw [o3]
    gi_wp2
    have B8 : Below W.heap.size W (W.alloc (.cells #[.int .i64 o.cls, .slice sa sn sc, .slice ba bn bq] 35)) := box_below
    have l8 : br < W.heap.size := by
      obtain ⟨_, _, _, _, _, q6, _⟩ := hi
      omega
    refine hK _ _ ⟨B8.size, fun k o _ hk _ => (B8.block k (lt_of_block' hk)).trans hk⟩ (KcO.of_below B8 ?_) (hI pre W _ none hi ⟨B8.os, B8.tape, B8.output, B8.size, fun q hq _ => B8.block q hq⟩ (fun r e => by cases e)) hok ⟨W.heap.size, o.cls, .slice sa sn sc, .slice ba bn bq, o3, new1 _ _, by rw [o3]⟩
    rintro k ⟨v', z1, z2⟩
    exact .inl ⟨v', by rw [← B8.block br l8]; exact z1, z2⟩
  case stop =>
    rintro D c' pre W _ _ hx
    exact hx.elim
  case done =>
    rintro D xs W hD hxs ⟨⟨v', q1, q2⟩, q3, _, _, _, q6, _⟩ hK
    have eL : xs.map (chF v) = chaL v := by
      unfold chaL oopsL
      rw [hxs]
    rw [eL] at q2
    obtain ⟨a, n, cap, rfl, hn⟩ := q2.shape
    replace hn : Hid _ := hn
    have hc7 : W.cell? ⟨br, 0, none⟩ = some (.slice a n cap) := by rw [cell_of_row W br _ _ _ _ q1]; rfl
    gi_wp2
    refine ⟨by simp, .inl ⟨_, _, rfl, run_takeDeferred hK, ?_⟩⟩
    refine ⟨_, results_tmp rfl _ _ _, a, n, cap, rfl, ?_, ?_⟩
    · refine (q2.cellsKept (fun g cur e hh _ => World.putObj_heap_other (fun e' => ?_))).mono (by omega)
      subst e'
      rw [hK] at hh
      cases hh
    · exact ⟨q3.os, q3.tape, q3.output, Nat.le_trans q3.size (grownBy_putObj' W D _).size, fun q hq => (World.putObj_heap_other (by omega)).trans (q3.block q hq)⟩
  case body =>
    rintro l pre k a' W ⟨⟨v', q1, q2⟩, q3, q4, q5, q5', q6, q7⟩ hok ⟨bo, c0, v1, v2, k1, EO, rfl⟩
    have hlen : Hid (pre.length + 1 ≤ 8193) := by
      obtain ⟨j, _, e⟩ := hok
      have h1 : pre.length ≤ (ownK v).length := by rw [e]; exact Nat.le_trans (List.length_filter_le _ _) (by rw [List.length_take]; omega)
      have h2 : (ownK v).length ≤ 8192 := len8 _
      show _ ≤ _
      omega
    have hkm : k ∈ ownK v := by obtain ⟨j, hj, _⟩ := hok; exact List.mem_of_getElem? hj
    have hx64 : -9223372036854775808 ≤ k ∧ k ≤ 9223372036854775807 := by have := hy.ow k (fun e => by have := (hmem k).1 hkm; rw [e] at this; simp at this); omega
    obtain ⟨y, sa, sn, sc, ba, bn, bq, o2, o3, o4', hsn, hbn⟩ := hPv k hkm
    have o4 := o4'.below q3
    obtain ⟨rfl, rfl, rfl⟩ : y.cls = c0 ∧ Value.slice sa sn sc = v1 ∧ Value.slice ba bn bq = v2 := by rw [o3] at k1; simpa using k1
    have hck : Hid (chF v k = ⟨k, false, y.cls, y.vs, y.bs⟩) := by
      show chF v k = _
      unfold chF chO
      rw [o2]
      rfl
    rw [o3]
    obtain ⟨a5, m5, cap5, rfl, hm5⟩ := q2.shape
    replace hm5 : Hid _ := hm5
    have hge : ∀ g, (Value.slice a5 m5 cap5).ownBlock = some g → Wl.heap.size ≤ g ∧ ∃ cur, W.heap[g]? = some (.cells cur 96 (0, 0)) := fun g hg => q2.block hg
    have hne : (Value.slice a5 m5 cap5).ownBlock = some br → False := fun e => by have := (hge br e).1; omega
    replace o2 : Hid _ := o2
    replace o3 : Hid _ := o3
    clear hok hkm k1 o4'
    gi_wp2_with fail
    refine wpIn_region_inv' (fun A D a w' => ∃ v10 v11 v12 v13 v14 v15 v16 ga gn gc qa qn qc nb a8 n8 c8, a = (((((((A.put (some 10) v10).put (some 11) v11).put (some 12) v12).put (some 13) v13).put (some 14) v14).put (some 15) v15).put (some 16) v16) ∧ (D 7 ∨ w'.heap[br]? = W.heap[br]?) ∧ (D 6 ∨ Below W.heap.size W w') ∧ (D 0 → v10 = .slice a5 m5 cap5) ∧ (D 1 → v11 = .int .i64 k) ∧ (D 2 → v12 = .agg #[.int .i64 y.cls, .slice sa sn sc, .slice ba bn bq]) ∧ (D 3 → v13 = .agg #[.int .i64 y.cls, .slice ga gn gc, .slice qa qn qc]) ∧ (D 4 → v14 = .agg #[.int .i64 k, .bool false, .int .i64 y.cls, .slice ga gn gc, .slice qa qn qc]) ∧ (D 5 → v15 = .slice (some ⟨nb, 0, none⟩) 1 1) ∧ (D 6 → v16 = .slice a8 n8 c8) ∧ (D 7 → ∃ w6 : World, w6.heap[br]? = W.heap[br]? ∧ w' = w6.setCell ⟨br, 0, none⟩ (.slice a8 n8 c8) ∧ ∃ wp : World, Below W.heap.size W wp ∧ wp.grownBy w6 (Value.slice a5 m5 cap5).ownBlock ∧ OwnP w6 Wl.heap.size (.slice a8 n8 c8) ((pre.map (chF v)) ++ [⟨k, false, y.cls, y.vs, y.bs⟩]) ∧ (∀ g, (Value.slice a8 n8 c8).ownBlock = some g → (Value.slice a5 m5 cap5).ownBlock = some g ∨ wp.heap.size ≤ g)) ∧ (D 3 → ¬ D 6 → OwnV w' W.heap.size (.slice ga gn gc) y.vs ∧ OwnB w' W.heap.size (.slice qa qn qc) y.bs) ∧ (D 5 → ¬ D 6 → ∀ j v, (⟨⟨k, false, y.cls, y.vs, y.bs⟩, ga, gn, gc, qa, qn, qc⟩ : Cs).cells[j]? = some v → w'.cell? ⟨nb, j, none⟩ = some v) ∧ (D 6 → ¬ D 7 → ∃ wp : World, Below W.heap.size W wp ∧ wp.grownBy w' (Value.slice a5 m5 cap5).ownBlock ∧ OwnP w' Wl.heap.size (.slice a8 n8 c8) ((pre.map (chF v)) ++ [⟨k, false, y.cls, y.vs, y.bs⟩]) ∧ (∀ g, (Value.slice a8 n8 c8).ownBlock = some g → (Value.slice a5 m5 cap5).ownBlock = some g ∨ wp.heap.size ≤ g))) (by kernel_rfl) (by kernel_rfl) ?mono ?start ?step ?done
    case mono =>
      rintro D D' a w' hD ⟨v10, v11, v12, v13, v14, v15, v16, ga, gn, gc, qa, qn, qc, nb, a8, n8, c8, ha, hC, hB, e0, e1, e2, e3, e4, e5, e6, hQ, hCp, hLit, hA⟩
      exact ⟨v10, v11, v12, v13, v14, v15, v16, ga, gn, gc, qa, qn, qc, nb, a8, n8, c8, ha, hC.imp_left (hD 7).1, hB.imp_left (hD 6).1, fun h => e0 ((hD 0).2 h), fun h => e1 ((hD 1).2 h), fun h => e2 ((hD 2).2 h), fun h => e3 ((hD 3).2 h), fun h => e4 ((hD 4).2 h), fun h => e5 ((hD 5).2 h), fun h => e6 ((hD 6).2 h), fun h => hQ ((hD 7).2 h), fun h h' => hCp ((hD 3).2 h) (fun k => h' ((hD 6).1 k)), fun h h' => hLit ((hD 5).2 h) (fun k => h' ((hD 6).1 k)), fun h h' => hA ((hD 6).2 h) (fun k => h' ((hD 7).1 k))⟩
    case start => exact ⟨undef, undef, undef, undef, undef, undef, undef, none, 0, 0, none, 0, 0, 0, none, 0, 0, by kernel_rfl, .inr (rfl), .inr ((Below.refl _ _).drew), fun h => h.elim, fun h => h.elim, fun h => h.elim, fun h => h.elim, fun h => h.elim, fun h => h.elim, fun h => h.elim, fun h => h.elim, fun h _ => h.elim, fun h _ => h.elim, fun h _ => h.elim⟩
    case step =>
      intro i o ho D a w' hI hn hcl hd
      obtain ⟨v10, v11, v12, v13, v14, v15, v16, ga, gn, gc, qa, qn, qc, nb, a8, n8, c8, ha, hC, hB, e0, e1, e2, e3, e4, e5, e6, hQ, hCp, hLit, hA⟩ := hI
      match i, ho with
      | 0, ho =>
        cases Option.some.inj ho
        refine roundIn_op (by intro c h; cases h) ?_
        have ev : a.tmps[3]?.getD undef = .pointer (some ⟨br, 0, none⟩) := by rw [ha]; kernel_rfl
        have hb := hC.resolve_left (fun h => (fun h => hn (hcl 6 _ rfl h ⟨0, .data⟩ (by simp) rfl)) (hcl 7 _ rfl h ⟨6, .data⟩ (by simp) rfl))
        have hcc : w'.cell? ⟨br, 0, none⟩ = some (.slice a5 m5 cap5) := by rw [cell_of_row w' br _ _ _ _ (hb.trans q1)]; rfl
        refine wp_value (w' := w') (v := .slice a5 m5 cap5) (by simp [execOp, ev, go_sem, hcc]) ?_
        exact ⟨(.slice a5 m5 cap5), v11, v12, v13, v14, v15, v16, ga, gn, gc, qa, qn, qc, nb, a8, n8, c8, by rw [ha]; kernel_rfl, hC.imp_left .inr, hB.imp_left .inr, fun _ => rfl, fun h => e1 (h.resolve_left (by decide)), fun h => e2 (h.resolve_left (by decide)), fun h => e3 (h.resolve_left (by decide)), fun h => e4 (h.resolve_left (by decide)), fun h => e5 (h.resolve_left (by decide)), fun h => e6 (h.resolve_left (by decide)), fun h => hQ (h.resolve_left (by decide)), fun h h' => hCp (h.resolve_left (by decide)) (fun k => h' (.inr k)), fun h h' => hLit (h.resolve_left (by decide)) (fun k => h' (.inr k)), fun h h' => hA (h.resolve_left (by decide)) (fun k => h' (.inr k))⟩
      | 1, ho =>
        cases Option.some.inj ho
        refine roundIn_op (by intro c h; cases h) ?_
        have ev : a.tmps[4]?.getD undef = .int .i64 k := by rw [ha]; kernel_rfl
        refine wp_value (w' := w') (v := .int .i64 k) (by simp [execOp, ev, go_sem]) ?_
        exact ⟨v10, (.int .i64 k), v12, v13, v14, v15, v16, ga, gn, gc, qa, qn, qc, nb, a8, n8, c8, by rw [ha]; kernel_rfl, hC.imp_left .inr, hB.imp_left .inr, fun h => e0 (h.resolve_left (by decide)), fun _ => rfl, fun h => e2 (h.resolve_left (by decide)), fun h => e3 (h.resolve_left (by decide)), fun h => e4 (h.resolve_left (by decide)), fun h => e5 (h.resolve_left (by decide)), fun h => e6 (h.resolve_left (by decide)), fun h => hQ (h.resolve_left (by decide)), fun h h' => hCp (h.resolve_left (by decide)) (fun k => h' (.inr k)), fun h h' => hLit (h.resolve_left (by decide)) (fun k => h' (.inr k)), fun h h' => hA (h.resolve_left (by decide)) (fun k => h' (.inr k))⟩
      | 2, ho =>
        cases Option.some.inj ho
        refine roundIn_op (by intro c h; cases h) ?_
        have ev : a.tmps[5]?.getD undef = .pointer (some ⟨bo, 0, none⟩) := by rw [ha]; kernel_rfl
        have hb := hB.resolve_left (fun h => (fun h => (fun h => (fun h => hn (hcl 3 _ rfl h ⟨2, .data⟩ (by simp) rfl)) (hcl 4 _ rfl h ⟨3, .data⟩ (by simp) rfl)) (hcl 5 _ rfl h ⟨4, .data⟩ (by simp) rfl)) (hcl 6 _ rfl h ⟨5, .data⟩ (by simp) rfl))
        obtain ⟨z0, z1, z2, _⟩ := obj_cells ((hb.block bo (lt_of_block EO)).trans EO)
        refine wp_value (w' := w') (v := .agg #[.int .i64 y.cls, .slice sa sn sc, .slice ba bn bq]) (by simp [execOp, ev, go_sem, z0, z1, z2]) ?_
        exact ⟨v10, v11, (.agg #[.int .i64 y.cls, .slice sa sn sc, .slice ba bn bq]), v13, v14, v15, v16, ga, gn, gc, qa, qn, qc, nb, a8, n8, c8, by rw [ha]; kernel_rfl, hC.imp_left .inr, hB.imp_left .inr, fun h => e0 (h.resolve_left (by decide)), fun h => e1 (h.resolve_left (by decide)), fun _ => rfl, fun h => e3 (h.resolve_left (by decide)), fun h => e4 (h.resolve_left (by decide)), fun h => e5 (h.resolve_left (by decide)), fun h => e6 (h.resolve_left (by decide)), fun h => hQ (h.resolve_left (by decide)), fun h h' => hCp (h.resolve_left (by decide)) (fun k => h' (.inr k)), fun h h' => hLit (h.resolve_left (by decide)) (fun k => h' (.inr k)), fun h h' => hA (h.resolve_left (by decide)) (fun k => h' (.inr k))⟩
      | 3, ho =>
        cases Option.some.inj ho
        refine roundIn_op (by intro c h; cases h) ?_
        have ev : a.tmps[12]?.getD undef = .agg #[.int .i64 y.cls, .slice sa sn sc, .slice ba bn bq] := by rw [ha, e2 (hd ⟨2, .data⟩ (by simp) rfl)]; kernel_rfl
        have hb := hB.resolve_left (fun h => (fun h => (fun h => hn (hcl 4 _ rfl h ⟨3, .data⟩ (by simp) rfl)) (hcl 5 _ rfl h ⟨4, .data⟩ (by simp) rfl)) (hcl 6 _ rfl h ⟨5, .data⟩ (by simp) rfl))
        refine wp_enter (f := 40) (args := #[.agg #[.int .i64 y.cls, .slice sa sn sc, .slice ba bn bq]]) (by simp [execOp, ev, go_sem]) ?_
        refine (copy_shape (o4.below hb) hsn hbn).mono ?_
        rintro e w6 ⟨ga', gn', gc', qa', qn', qc', rfl, oV, oB, HB⟩
        refine ⟨_, rfl, ?_⟩
        exact ⟨v10, v11, v12, (.agg #[.int .i64 y.cls, .slice ga' gn' gc', .slice qa' qn' qc']), v14, v15, v16, ga', gn', gc', qa', qn', qc', nb, a8, n8, c8, by rw [ha]; kernel_rfl, hC.imp .inr (fun h => (HB.block br (lt_of_block (h.trans q1))).trans h), hB.imp .inr (fun h => below_size h h.size HB), fun h => e0 (h.resolve_left (by decide)), fun h => e1 (h.resolve_left (by decide)), fun h => e2 (h.resolve_left (by decide)), fun _ => rfl, fun h => absurd (h.resolve_left (by decide)) (fun h => hn (hcl 4 _ rfl h ⟨3, .data⟩ (by simp) rfl)), fun h => e5 (h.resolve_left (by decide)), fun h => e6 (h.resolve_left (by decide)), fun h => absurd (h.resolve_left (by decide)) (fun h => (fun h => (fun h => (fun h => hn (hcl 4 _ rfl h ⟨3, .data⟩ (by simp) rfl)) (hcl 5 _ rfl h ⟨4, .data⟩ (by simp) rfl)) (hcl 6 _ rfl h ⟨5, .data⟩ (by simp) rfl)) (hcl 7 _ rfl h ⟨6, .data⟩ (by simp) rfl)), fun _ _ => ⟨oV.mono hb.size, oB.mono hb.size⟩, fun h _ => absurd (h.resolve_left (by decide)) (fun h => (fun h => hn (hcl 4 _ rfl h ⟨3, .data⟩ (by simp) rfl)) (hcl 5 _ rfl h ⟨4, .data⟩ (by simp) rfl)), fun h _ => absurd (h.resolve_left (by decide)) (fun h => (fun h => (fun h => hn (hcl 4 _ rfl h ⟨3, .data⟩ (by simp) rfl)) (hcl 5 _ rfl h ⟨4, .data⟩ (by simp) rfl)) (hcl 6 _ rfl h ⟨5, .data⟩ (by simp) rfl))⟩
      | 4, ho =>
        cases Option.some.inj ho
        refine roundIn_op (by intro c h; cases h) ?_
        have ev : a.tmps[11]?.getD undef = .int .i64 k := by rw [ha, e1 (hd ⟨1, .data⟩ (by simp) rfl)]; kernel_rfl
        have ev' : a.tmps[13]?.getD undef = .agg #[.int .i64 y.cls, .slice ga gn gc, .slice qa qn qc] := by rw [ha, e3 (hd ⟨3, .data⟩ (by simp) rfl)]; kernel_rfl
        refine wp_value (w' := w') (v := .agg #[.int .i64 k, .bool false, .int .i64 y.cls, .slice ga gn gc, .slice qa qn qc]) (by simp [execOp, ev, ev', go_sem]) ?_
        exact ⟨v10, v11, v12, v13, (.agg #[.int .i64 k, .bool false, .int .i64 y.cls, .slice ga gn gc, .slice qa qn qc]), v15, v16, ga, gn, gc, qa, qn, qc, nb, a8, n8, c8, by rw [ha]; kernel_rfl, hC.imp_left .inr, hB.imp_left .inr, fun h => e0 (h.resolve_left (by decide)), fun h => e1 (h.resolve_left (by decide)), fun h => e2 (h.resolve_left (by decide)), fun h => e3 (h.resolve_left (by decide)), fun _ => rfl, fun h => e5 (h.resolve_left (by decide)), fun h => e6 (h.resolve_left (by decide)), fun h => hQ (h.resolve_left (by decide)), fun h h' => hCp (h.resolve_left (by decide)) (fun k => h' (.inr k)), fun h h' => hLit (h.resolve_left (by decide)) (fun k => h' (.inr k)), fun h h' => hA (h.resolve_left (by decide)) (fun k => h' (.inr k))⟩
      | 5, ho =>
        cases Option.some.inj ho
        refine roundIn_op (by intro c h; cases h) ?_
        have ev : a.tmps[14]?.getD undef = .agg #[.int .i64 k, .bool false, .int .i64 y.cls, .slice ga gn gc, .slice qa qn qc] := by rw [ha, e4 (hd ⟨4, .data⟩ (by simp) rfl)]; kernel_rfl
        refine wp_value (w' := w'.alloc (.cells #[.int .i64 k, .bool false, .int .i64 y.cls, .slice ga gn gc, .slice qa qn qc] 96)) (v := .slice (some ⟨w'.heap.size, 0, none⟩) 1 1) (by simp [execOp, ev, go_sem]) ?_
        exact ⟨v10, v11, v12, v13, v14, (.slice (some ⟨w'.heap.size, 0, none⟩) 1 1), v16, ga, gn, gc, qa, qn, qc, w'.heap.size, a8, n8, c8, by rw [ha]; kernel_rfl, hC.imp .inr (fun h => (box_below.block br (lt_of_block (h.trans q1))).trans h), hB.imp .inr (fun h => below_size h h.size box_below), fun h => e0 (h.resolve_left (by decide)), fun h => e1 (h.resolve_left (by decide)), fun h => e2 (h.resolve_left (by decide)), fun h => e3 (h.resolve_left (by decide)), fun h => e4 (h.resolve_left (by decide)), fun _ => rfl, fun h => e6 (h.resolve_left (by decide)), fun h => absurd (h.resolve_left (by decide)) (fun h => (fun h => hn (hcl 6 _ rfl h ⟨5, .data⟩ (by simp) rfl)) (hcl 7 _ rfl h ⟨6, .data⟩ (by simp) rfl)), fun h h' => ⟨(hCp (h.resolve_left (by decide)) (fun k => h' (.inr k))).1.below box_below, (hCp (h.resolve_left (by decide)) (fun k => h' (.inr k))).2.below box_below⟩, fun _ _ => lit_cells (w := w') (y := (⟨⟨k, false, y.cls, y.vs, y.bs⟩, ga, gn, gc, qa, qn, qc⟩ : Cs)) (t := 96), fun h _ => absurd (h.resolve_left (by decide)) (fun h => hn (hcl 6 _ rfl h ⟨5, .data⟩ (by simp) rfl))⟩
      | 6, ho =>
        cases Option.some.inj ho
        refine roundIn_op (by intro c h; cases h) ?_
        have ev : a.tmps[10]?.getD undef = .slice a5 m5 cap5 := by rw [ha, e0 (hd ⟨0, .data⟩ (by simp) rfl)]; kernel_rfl
        have ev' : a.tmps[15]?.getD undef = .slice (some ⟨nb, 0, none⟩) 1 1 := by rw [ha, e5 (hd ⟨5, .data⟩ (by simp) rfl)]; kernel_rfl
        have hb := hB.resolve_left hn
        obtain ⟨oV, oB⟩ := hCp (hcl 4 _ rfl (hcl 5 _ rfl (hd ⟨5, .data⟩ (by simp) rfl) ⟨4, .data⟩ (by simp) rfl) ⟨3, .data⟩ (by simp) rfl) hn
        have hL := hLit (hd ⟨5, .data⟩ (by simp) rfl) hn
        obtain ⟨a8', n8', c8', w6, hr6, hO6, hG, hP⟩ := app_chO w' 56 q2 hb (⟨⟨k, false, y.cls, y.vs, y.bs⟩, ga, gn, gc, qa, qn, qc⟩ : Cs) nb hL ⟨o4.cls, hx64, oV, oB⟩ (by have := hlen.out; rw [List.length_map]; omega) q6
        refine Lib.wp_append_run w' (.tmp 10) (.tmp 15) 56 56 rfl _ _ (by simpa [Act.eval] using ev) (by simpa [Act.eval] using ev') _ w6 hr6 ?_
        exact ⟨v10, v11, v12, v13, v14, v15, (.slice a8' n8' c8'), ga, gn, gc, qa, qn, qc, nb, a8', n8', c8', by rw [ha]; kernel_rfl, hC.imp .inr (fun h => (hG.block br (lt_of_block (h.trans q1)) (fun e => hne e.symm)).trans h), .inl (.inl rfl), fun h => e0 (h.resolve_left (by decide)), fun h => e1 (h.resolve_left (by decide)), fun h => e2 (h.resolve_left (by decide)), fun h => e3 (h.resolve_left (by decide)), fun h => e4 (h.resolve_left (by decide)), fun h => e5 (h.resolve_left (by decide)), fun _ => rfl, fun h => absurd (h.resolve_left (by decide)) (fun h => hn (hcl 7 _ rfl h ⟨6, .data⟩ (by simp) rfl)), fun _ h' => absurd (.inl rfl) h', fun _ h' => absurd (.inl rfl) h', fun _ _ => ⟨w', hb, hG, hO6, hP⟩⟩
      | 7, ho =>
        cases Option.some.inj ho
        refine roundIn_op (by intro c h; cases h) ?_
        have ev : a.tmps[3]?.getD undef = .pointer (some ⟨br, 0, none⟩) := by rw [ha]; kernel_rfl
        have ev' : a.tmps[16]?.getD undef = .slice a8 n8 c8 := by rw [ha, e6 (hd ⟨6, .data⟩ (by simp) rfl)]; kernel_rfl
        have hb := hC.resolve_left hn
        have hfr := frozen_of_row w' br 0 _ _ (hb.trans q1)
        have hcc : w'.cell? ⟨br, 0, none⟩ = some (.slice a5 m5 cap5) := by rw [cell_of_row w' br _ _ _ _ (hb.trans q1)]; rfl
        have hA' := hA (hd ⟨6, .data⟩ (by simp) rfl) hn
        refine wp_skip (w' := w'.setCell ⟨br, 0, none⟩ (.slice a8 n8 c8)) (by simp [execOp, ev, ev', go_sem, hfr, hcc]) ?_
        exact ⟨v10, v11, v12, v13, v14, v15, v16, ga, gn, gc, qa, qn, qc, nb, a8, n8, c8, by rw [ha]; kernel_rfl, .inl (.inl rfl), .inl (.inr (hd ⟨6, .data⟩ (by simp) rfl)), fun h => e0 (h.resolve_left (by decide)), fun h => e1 (h.resolve_left (by decide)), fun h => e2 (h.resolve_left (by decide)), fun h => e3 (h.resolve_left (by decide)), fun h => e4 (h.resolve_left (by decide)), fun h => e5 (h.resolve_left (by decide)), fun h => e6 (h.resolve_left (by decide)), fun _ => ⟨w', hb, rfl, hA'⟩, fun _ h' => absurd (.inr (hd ⟨6, .data⟩ (by simp) rfl)) h', fun _ h' => absurd (.inr (hd ⟨6, .data⟩ (by simp) rfl)) h', fun _ h' => absurd (.inl rfl) h'⟩
      | i + 8, ho => simp at ho
    case done =>
      rintro D a w' ⟨v10, v11, v12, v13, v14, v15, v16, ga, gn, gc, qa, qn, qc, nb, a8, n8, c8, ha, hC, hB, e0, e1, e2, e3, e4, e5, e6, hQ, hCp, hLit, hA⟩ hall
      obtain rfl := e0 (hall 0 (by decide))
      obtain rfl := e1 (hall 1 (by decide))
      obtain rfl := e2 (hall 2 (by decide))
      obtain rfl := e3 (hall 3 (by decide))
      obtain rfl := e4 (hall 4 (by decide))
      obtain rfl := e5 (hall 5 (by decide))
      obtain rfl := e6 (hall 6 (by decide))
      obtain ⟨w6, u1, rfl, wp, p1, p2, p3, p4⟩ := hQ (hall 7 (by decide))
      clear hC hB hCp hLit hA hQ hall ha e0 e1 e2 e3 e4 e5 e6
      have cellsK : ∀ q, q < W.heap.size → (Value.slice a5 m5 cap5).ownBlock ≠ some q → w6.heap[q]? = W.heap[q]? := fun q hq hn => (p2.block q (Nat.lt_of_lt_of_le hq p1.size) (fun e => hn e.symm)).trans (p1.block q hq)
      have u2 : w6.heap[br]? = some (.cells #[.slice a5 m5 cap5] 56 (0, 0)) := u1.trans q1
      have X5 : (w6.setCell ⟨br, 0, none⟩ (.slice a8 n8 c8)).heap[br]? = some (.cells #[.slice a8 n8 c8] 56 (0, 0)) := by rw [heap_setCell_same w6 br 0 _ _ _ u2]; rfl
      have oth : ∀ q, q ≠ br → (w6.setCell ⟨br, 0, none⟩ (.slice a8 n8 c8)).heap[q]? = w6.heap[q]? := fun q hq => heap_setCell_other w6 ⟨br, 0, none⟩ q _ hq
      have sz : (w6.setCell ⟨br, 0, none⟩ (.slice a8 n8 c8)).heap.size = w6.heap.size := by simp
      have gr : W.heap.size ≤ w6.heap.size := Nat.le_trans p1.size p2.size
      have low : ∀ q, q < Wl.heap.size → w6.heap[q]? = W.heap[q]? := fun q hq => cellsK q (by omega) (fun e => by have := (hge q e).1; omega)
      have OC : OwnP (w6.setCell ⟨br, 0, none⟩ (.slice a8 n8 c8)) Wl.heap.size (.slice a8 n8 c8) ((pre ++ [k]).map (chF v)) := by
        rw [List.map_append, List.map_cons, List.map_nil, hck.out]
        exact p3.cellsKept (fun g _ _ _ hb => oth g (by omega))
      refine ⟨⟨by rw [sz]; exact gr, fun q o hq ho hc => ?_⟩, ⟨by rw [sz]; exact gr, fun q cur e hq hn hh => ?_, ?_⟩, ⟨_, X5, OC⟩, ?_, ?_, ?_, ?_, ?_, ?_⟩
      · rw [oth q (by omega), cellsK q (lt_of_block' ho) (fun e => ?_)]
        · exact ho
        · obtain ⟨_, cur, hh⟩ := hge q e
          rw [ho] at hh
          cases hh
          cases hc
      · rw [oth q (by omega), cellsK q (lt_of_block' hh) (fun e => hn ⟨_, q1, e⟩)]
      · rintro k ⟨v', z1, z2⟩
        rw [X5] at z1
        cases z1
        rcases p4 k z2 with z | z
        · exact .inl ⟨_, q1, z⟩
        · exact .inr (Nat.le_trans p1.size z)
      · have B1 : Below w.heap.size w w6 := ⟨p2.os.trans (p1.os.trans q3.os), p2.tape.trans (p1.tape.trans q3.tape), p2.output.trans (p1.output.trans q3.output), Nat.le_trans q3.size gr, fun q hq => (low q (by omega)).trans (q3.block q hq)⟩
        exact B1.setCell (p := ⟨br, 0, none⟩) n7 _
      · rw [oth b1 d1, low b1 l1]; exact q4
      · rw [oth b2 d2, low b2 l2]; exact q5
      · rw [oth b3 d3, low b3 l3]; exact q5'
      · rw [sz]; omega
      · have := hlen.out
        simp at this ⊢
        omega
end Go.Proofs.YteomolihandfnaaGreat
