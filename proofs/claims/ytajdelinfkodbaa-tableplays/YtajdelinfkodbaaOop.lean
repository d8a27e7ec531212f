/- All objects behind a commit: Oops. -/
import Derived.Test.YtajdelinfkodbaaBeh
namespace Go.Proofs.Ytajdelinfkodbaa
open Go.RowKit Go.Shelf
attribute [local go_sem] Oper.semAt_some
set_option maxRecDepth 100000
theorem Try.info2 : (Try.prog.info? 2).map (fun i => (i.zero, i.size, i.bytes)) = some (some (.int .i64 0), 1, 8) := by kernel_rfl
/-- append of one number: where the new row lies. -/
theorem app_i64 (w : World) (ty base : Nat) (v : Value) (xs : List Int) (hown : w.ownsRow base 2 1 v xs.length (xs.map (Value.int .i64))) (y : Int) (b8 : Nat) (hb8 : w.cell? ⟨b8, 0, none⟩ = some (.int .i64 y)) (hn : xs.length ≤ 1000000000) (hbase : base ≤ w.heap.size) :
    ∃ a' n' c' w', (Builtin.append_ #[60, 60] ty #[v, .slice (some ⟨b8, 0, none⟩) 1 1]).run Try.prog w = .ok (.slice a' n' c') w' ∧ w'.ownsRow base 2 1 (.slice a' n' c') (xs ++ [y]).length ((xs ++ [y]).map (Value.int .i64)) ∧ w.grownBy w' v.ownBlock ∧ (∀ g, (Value.slice a' n' c').ownBlock = some g → v.ownBlock = some g ∨ w.heap.size ≤ g) := by
  obtain ⟨i, hi, hz, hs, hb⟩ := info_parts Try.info2
  have hnews : ∀ j u, ([Value.int .i64 y])[j]? = some u → w.cell? ((⟨b8, 0, none⟩ : Addr).add j) = some u := by
    intro j u hj
    match j with
    | 0 => cases hj; exact hb8
    | j + 1 => cases hj
  have h1c : ∀ u ∈ [Value.int .i64 y], u.oneCell' = true := by simp [Value.oneCell']
  obtain ⟨v', w', hr, h1, h2, _⟩ := run_append_own (P := Try.prog) w base 60 ty 2 i _ 1 8 Try.underlying60 hi hz hs hb rfl (by decide) v xs.length _ hown ⟨b8, 0, none⟩ 1 1 [.int .i64 y] rfl hnews h1c (by unfold maxLen; omega) (by omega) hbase
  have O : w'.ownsRow base 2 1 v' (xs ++ [y]).length ((xs ++ [y]).map (Value.int .i64)) := by rw [List.map_append, List.length_append]; exact h1
  obtain ⟨a', c', hv⟩ := own_slice O
  subst hv
  refine ⟨a', _, c', w', hr, O, h2, fun g hg => ?_⟩
  rcases hown.2 with ⟨rfl, h0⟩ | ⟨g0, cap, cur, rfl, hbg, hgh, hnc, hcm, hcs, htake⟩
  · have hx0 : xs = [] := List.eq_nil_of_length_eq_zero h0
    subst hx0
    obtain ⟨v2, w2, hr2, h12, _, _⟩ := run_append_own (P := Try.prog) w w.heap.size 60 ty 2 i _ 1 8 Try.underlying60 hi hz hs hb rfl (by decide) (.slice none 0 0) 0 [] (World.ownsRow_nil _ _ _ _) ⟨b8, 0, none⟩ 1 1 [.int .i64 y] rfl hnews h1c (by unfold maxLen; omega) (by omega) (Nat.le_refl _)
    rw [hr] at hr2
    injection hr2 with e1 e2
    subst e1
    exact .inr (own_block h12 hg).1
  · by_cases hroom : xs.length + 1 ≤ cap
    · obtain ⟨w2, hr2, _, _⟩ := run_append_own_spare (P := Try.prog) w base 60 ty 2 i 1 Try.underlying60 hi hs g0 xs.length cap _ hown ⟨b8, 0, none⟩ 1 1 [.int .i64 y] rfl hnews h1c hroom
      rw [hr] at hr2
      injection hr2 with e1 e2
      rw [e1] at hg
      exact .inl hg
    · have holds : ∀ j u, (xs.map (Value.int .i64))[j]? = some u → w.cell? ((⟨g0, 0, none⟩ : Addr).add j) = some u := World.ownsRow.cells hown (g := g0) rfl
      have hr2 := run_append_grow (P := Try.prog) w 60 ty 2 i _ Try.underlying60 hi hz ⟨g0, 0, none⟩ xs.length cap _ (by rw [hs]; exact hown.1) holds ⟨b8, 0, none⟩ 1 1 [.int .i64 y] (by rw [hs]; rfl) hnews (by omega) (by omega) (growslice_fits (by omega) (by rw [hb]; omega))
      rw [hr] at hr2
      injection hr2 with e1 e2
      rw [e1] at hg
      simp [Value.ownBlock] at hg
      exact .inr (by omega)
/-- append within a fence, its run known. -/
theorem appIn {F : Fence} {n : Nat} {P : Program} (w : World) {ops : Array Oper} {rest : List Oper} {o : Oper} {a : Act} {Q : Exit → Act → World → Prop} (hg : o.guard = none) (s x : Operand) (t : TypeId) (hop : o.op = Op.call { callee := Callee.builtin Builtin.append, args := #[s, x], argTypes := #[t, t] })
    (vs vx : Value) (hs : a.eval s = vs) (hx : a.eval x = vx) (v' : Value) (w' : World) (hr : (Builtin.append_ #[t, t] o.type #[vs, vx]).run P w = .ok v' w') (hK : wpListIn F n P ops Q rest (a.put o.dst v') w') : wpListIn F n P ops Q (o :: rest) a w := by
  refine wpListIn_plain hg fun K hK' => ?_
  unfold Oper.wpIn
  refine ⟨?_, ?_⟩
  · simp [Oper.about, hop, resolve, Target.leads, Sem.run_pure]
  · rw [Oper.semAt_plain F _ _ (by rw [hop]; intro c hc'; cases hc')]
    simp [execOp, hop, resolve, invoke, builtin, hs, hx, hr, Result.andThen]
    exact hK' _ _ hK
theorem lt_of_block' {w : World} {g : Nat} {o : Obj} (h : w.heap[g]? = some o) : g < w.heap.size := (Array.getElem?_eq_some_iff.1 h).1
/-- An object stays where cells do. -/
theorem IsO.cells {A B : World} {c : Int} {sa ba : Option Addr} {sn sc bn bc : Nat} {vs : List (Int × Int)} {bs : List Int} (h : IsO A c sa sn sc ba bn bc vs bs) (hk : ∀ b o v, A.cell? ⟨b, o, none⟩ = some v → B.cell? ⟨b, o, none⟩ = some v) : IsO B c sa sn sc ba bn bc vs bs := by
  refine ⟨h.cls, ⟨h.v.size, h.v.room, h.v.most, h.v.nil0, h.v.wf, fun h0 => ?_⟩, ⟨h.b.size, h.b.room, h.b.most, h.b.nil0, h.b.byte, fun h0 => ?_⟩⟩
  · obtain ⟨b, off, e, hc⟩ := h.v.cells h0
    exact ⟨b, off, e, fun i hi => ⟨hk _ _ _ (hc i hi).1, hk _ _ _ (hc i hi).2⟩⟩
  · obtain ⟨b, off, e, hc⟩ := h.b.cells h0
    exact ⟨b, off, e, fun i hi => hk _ _ _ (hc i hi)⟩
/-- What comes next stays while no cells turn. -/
theorem okB_own (t : Tab) (c : Int) (B : Nat) (pre : List (Int × Value)) (x : Int × Value) : OwnFrom B (fun (_ : Unit) W => OkB t c pre x W) := by
  rintro _ W1 W2 row ⟨q1, y, sa, sn, sc, ba, bn, bq, q2, q3, q4⟩ hg hr
  refine ⟨q1, y, sa, sn, sc, ba, bn, bq, q2, q3, q4.cells fun k o v hv => ?_⟩
  have hlt := lt_of_cell hv
  have e := hg.block k hlt (fun e => ?_)
  · unfold World.cell? at hv ⊢
    rw [e]
    exact hv
  · obtain ⟨_, ob, z1, z2⟩ := hr k e.symm
    unfold World.cell? at hv
    rw [z1] at hv
    cases ob <;> first | (cases hv; done) | (cases z2; done)
def oopsL (t : Tab) (c : Int) : List Int := if t.first ≤ c ∧ c ≤ t.last then liveK t c else []
/-- What Oops tells. -/
def OopP (w : World) (ks : List Int) (e : Ending) (w' : World) : Prop := ∃ a n cap, e = .returned (.slice a n cap) ∧ n = ks.length ∧ w'.ownsRow w.heap.size 2 1 (.slice a n cap) n (ks.map (Value.int .i64)) ∧ Below w.heap.size w w'
set_option maxHeartbeats 8000000 in
theorem oops_any {w : World} {S R : Nat → Prop} {b : Nat} {t : Tab} (h : Tb w S R b t) (c : Int) : Calls Try.prog 28 #[.pointer (some ⟨b, 0, none⟩), .int .i64 c] w (OopP w (oopsL t c)) := by
  refine (callsIn_wide (n := 20)).1 ?_
  obtain ⟨mv, hblk, hV⟩ := h.blk
  have hf1 : Fence.wide.fn 39 := trivial
  have hf2 : Fence.wide.fn 49 := trivial
  have ch := callsIn_wide (n := 19) |>.2 (has_any hblk c)
  refine callsIn_of_wp_marks Try.func28 rfl trivial ?_ rfl
  simp only [Try.ntmps28, List.size_toArray, List.length_cons, List.length_nil, Nat.reduceAdd, Nat.reduceSub, Array.replicate_succ, Array.replicate_zero, List.push_toArray, List.append_toArray, List.nil_append, List.cons_append]
  by_cases hh : t.first ≤ c ∧ c ≤ t.last
  · rw [show (decide (t.first ≤ c) && decide (c ≤ t.last)) = true by simp [hh]] at ch
    have eL : Hid (oopsL t c = liveK t c) := by show oopsL t c = liveK t c; unfold oopsL; rw [if_pos hh]
    gi_wp2_with (first
      | (gi_at_call 39; refine ch.mono ?_; rintro e w' ⟨rfl, rfl⟩)
      | (gi_at_call 49; refine (behind_any _ _ _ _).mono ?_; rintro e w' ⟨rfl, rfl⟩))
    have E5 : (((w.alloc (.cells #[.slice none 0 0] 60)).alloc (.cells #[.pointer (some ⟨b, 0, none⟩)] 23)).alloc (.cells #[.int .i64 c] 2)).heap[w.heap.size]? = some (.cells #[.slice none 0 0] 60 (0, 0)) := old1 (old1 (new1 _ _) _) _
    have Et : (((w.alloc (.cells #[.slice none 0 0] 60)).alloc (.cells #[.pointer (some ⟨b, 0, none⟩)] 23)).alloc (.cells #[.int .i64 c] 2)).heap[w.heap.size + 1]? = some (.cells #[.pointer (some ⟨b, 0, none⟩)] 23 (0, 0)) := old1 (new2 _ _ _) _
    have Ec : (((w.alloc (.cells #[.slice none 0 0] 60)).alloc (.cells #[.pointer (some ⟨b, 0, none⟩)] 23)).alloc (.cells #[.int .i64 c] 2)).heap[w.heap.size + 1 + 1]? = some (.cells #[.int .i64 c] 2 (0, 0)) := new3 _ _ _ _
    have BL : Below w.heap.size w (((w.alloc (.cells #[.slice none 0 0] 60)).alloc (.cells #[.pointer (some ⟨b, 0, none⟩)] 23)).alloc (.cells #[.int .i64 c] 2)) := below_size (below_size box_below box_below.size box_below) (by simp; omega) box_below
    obtain ⟨Wl, hWl⟩ : ∃ Wl, (((w.alloc (.cells #[.slice none 0 0] 60)).alloc (.cells #[.pointer (some ⟨b, 0, none⟩)] 23)).alloc (.cells #[.int .i64 c] 2)) = Wl := ⟨_, rfl⟩
    rw [hWl] at E5 Et Ec BL ⊢
    clear hWl ch hV hblk
    have n1 : w.heap.size ≤ w.heap.size + 1 := by omega
    have n2 : w.heap.size ≤ w.heap.size + 1 + 1 := by omega
    have d1 : w.heap.size + 1 ≠ w.heap.size := by omega
    have d2 : w.heap.size + 1 + 1 ≠ w.heap.size := by omega
    generalize w.heap.size + 1 + 1 = bc at *
    generalize w.heap.size + 1 = bt at *
    obtain ⟨b5, hb5⟩ : ∃ q, q = w.heap.size := ⟨_, rfl⟩
    rw [← hb5] at E5 d1 d2 ⊢
    have n5 : w.heap.size ≤ b5 := Nat.le_of_eq hb5.symm
    clear hb5
    have l5 := lt_of_block E5
    have lt := lt_of_block Et
    have lc := lt_of_block Ec
    have lw := BL.size
    refine rangeW (F := Fence.wide) (n := 20) rfl (by decide) (gf := 64) (lb := #[.pointer (some ⟨bt, 0, none⟩), .pointer (some ⟨bc, 0, none⟩)]) rfl trivial (enters_of Try.func64 (by kernel_rfl) rfl) (beh_seq (n := 19) (by decide) (bt := bt) (bc := bc) h c) (fun _ => rfl)
      (fun pre W => (∃ v, W.heap[b5]? = some (.cells #[v] 60 (0, 0)) ∧ W.ownsRow Wl.heap.size 2 1 v (pre.map (·.1)).length ((pre.map (·.1)).map (Value.int .i64))) ∧ Below w.heap.size w W ∧ W.heap[bt]? = some (.cells #[.pointer (some ⟨b, 0, none⟩)] 23 (0, 0)) ∧ W.heap[bc]? = some (.cells #[.int .i64 c] 2 (0, 0)) ∧ Wl.heap.size ≤ W.heap.size ∧ pre.length ≤ 4096)
      (fun _ _ _ => False) (fun W k => ∃ v, W.heap[b5]? = some (.cells #[v] 60 (0, 0)) ∧ v.ownBlock = some k) ?hI (fun _ _ _ _ _ hs _ _ => hs) ?hV ?hO1 ?hO2 (fun pre x => okB_own t c _ pre x) ⟨⟨_, E5, World.ownsRow_nil _ _ _ _⟩, BL, Et, Ec, Nat.le_refl _, by simp⟩
      (fun x a' _ => a' = { tmps := #[.pointer (some ⟨b, 0, none⟩), .int .i64 c, undef, undef, .slice none 0 0, .pointer (some ⟨b5, 0, none⟩), .int .i64 x.1, .pointer (some ⟨b, 0, none⟩), .bool false, .bool false, .pointer (some ⟨b, 0, none⟩), .int .i64 c, .bool true, .bool false, .bool false, .pointer (some ⟨b, 0, none⟩), .int .i64 c, .func (.func 64) #[] #[.pointer (some ⟨bt, 0, none⟩), .pointer (some ⟨bc, 0, none⟩)], .int .i64 x.1, x.2, undef, undef, undef, undef, undef], defers := [] }) (fun _ _ _ _ _ _ hs _ _ => hs) ?assign ?body ?done ?stop
    case hI =>
      rintro pre A B row ⟨⟨v, q1, q2⟩, q3, q4, q5, q6, q7⟩ hg hr
      have low : ∀ q, q < Wl.heap.size → B.heap[q]? = A.heap[q]? := fun q hq => hg.block q (by omega) (fun e => by have := (hr q e.symm).1; omega)
      refine ⟨⟨v, (low b5 l5).trans q1, own_same q2 (fun g hg' => ?_)⟩, ⟨hg.os.trans q3.os, hg.tape.trans q3.tape, hg.output.trans q3.output, Nat.le_trans q3.size hg.size, fun q hq => (low q (by omega)).trans (q3.block q hq)⟩, (low bt lt).trans q4, (low bc lc).trans q5, Nat.le_trans q6 hg.size, q7⟩
      obtain ⟨_, cur, hh⟩ := own_block q2 hg'
      refine hg.block g (lt_of_block hh) (fun e => ?_)
      obtain ⟨_, o, z1, z2⟩ := hr g e.symm
      rw [hh] at z1
      cases z1
      cases z2
    case hV =>
      rintro pre W ⟨_, q3, q4, q5, q6, _⟩
      exact ⟨q3.size, fun g hg => q3.block g (h.sets.lt hg), by rw [cell_of_row W bt _ _ _ _ q4]; rfl, by rw [cell_of_row W bc _ _ _ _ q5]; rfl⟩
    case hO1 =>
      rintro pre W ⟨⟨v, q1, q2⟩, _⟩ k ⟨v', z1, z2⟩
      rw [q1] at z1
      cases z1
      obtain ⟨_, cur, hh⟩ := own_block q2 z2
      exact lt_of_block hh
    case hO2 =>
      rintro pre W W2 row ⟨⟨v, q1, q2⟩, _, _, _, q6, _⟩ hg hr k ⟨v', z1, z2⟩
      refine ⟨v', ?_, z2⟩
      rw [← hg.block b5 (by omega) (fun e => by have := (hr b5 e.symm).1; omega)]
      exact z1
    case assign =>
      rintro l pre x W K hi hok hK
      gi_wp2
      exact hK _ _ (KeepsFrom.refl _ _) ⟨Nat.le_refl _, fun _ _ _ _ _ _ => rfl, fun _ hk => .inl hk⟩ hi hok rfl
    case stop =>
      rintro D c' pre W _ _ hx
      exact hx.elim
    case done =>
      rintro D xs W hD hxs ⟨⟨v, q1, q2⟩, q3, _, _, q6, _⟩ hK
      rw [hxs] at q2
      obtain ⟨a, cap, rfl⟩ := own_slice q2
      have hc5 : W.cell? ⟨b5, 0, none⟩ = some (.slice a (liveK t c).length cap) := by rw [cell_of_row W b5 _ _ _ _ q1]; rfl
      gi_wp2
      refine ⟨by simp, .inl ⟨_, _, rfl, run_takeDeferred hK, ?_⟩⟩
      refine ⟨_, results_tmp rfl _ _ _, a, _, cap, rfl, by rw [eL.out], ?_, ?_⟩
      · rw [eL.out]
        exact own_mono (ownsRow_putObj q2 _ hK rfl) (by omega)
      · exact ⟨q3.os, q3.tape, q3.output, Nat.le_trans q3.size (grownBy_putObj' W D _).size, fun q hq => (World.putObj_heap_other (by omega)).trans (q3.block q hq)⟩
    case body =>
      rintro l pre x a' W ⟨⟨v, q1, q2⟩, q3, q4, q5, q6, q7⟩ hok rfl
      have hlen : pre.length + 1 ≤ 4096 := by
        have := (List.getElem?_eq_some_iff.1 hok.1).1
        have h2 : (liveK t c).length ≤ 4096 := by unfold liveK; exact Nat.le_trans (List.length_filter_le _ _) (by simp)
        omega
      obtain ⟨a5, cap5, rfl⟩ := own_slice q2
      obtain ⟨m5, hm5⟩ : ∃ q, q = (pre.map (·.1)).length := ⟨_, rfl⟩
      rw [← hm5] at q1 q2
      have hc5 : W.cell? ⟨b5, 0, none⟩ = some (.slice a5 m5 cap5) := by rw [cell_of_row W b5 _ _ _ _ q1]; rfl
      have own8 : (W.alloc (.cells #[.int .i64 x.1] 2)).ownsRow Wl.heap.size 2 1 (.slice a5 m5 cap5) (pre.map (·.1)).length ((pre.map (·.1)).map (Value.int .i64)) := by
        rw [← hm5]
        refine own_same q2 (fun g hg => ?_)
        obtain ⟨_, cur, hh⟩ := own_block q2 hg
        exact (box_below (o := .cells #[.int .i64 x.1] 2)).block g (lt_of_block hh)
      obtain ⟨a', n', c', w', hr, hO, hG, hP⟩ := app_i64 (W.alloc (.cells #[.int .i64 x.1] 2)) 60 Wl.heap.size (.slice a5 m5 cap5) (pre.map (·.1)) own8 x.1 W.heap.size (by rw [cell_of_row _ W.heap.size _ _ _ _ (new1 W (.cells #[.int .i64 x.1] 2))]; rfl) (by rw [← hm5]; simp at hm5; omega) (by simp; omega)
      have hge : ∀ g, (Value.slice a5 m5 cap5).ownBlock = some g → Wl.heap.size ≤ g := fun g hg => (own_block q2 hg).1
      have low : ∀ q, q < Wl.heap.size → w'.heap[q]? = W.heap[q]? := fun q hq => (hG.block q (by simp; omega) (fun e => by have := hge q e.symm; omega)).trans (box_below.block q (by omega))
      have E5' : w'.heap[b5]? = some (.cells #[.slice a5 m5 cap5] 60 (0, 0)) := (low b5 l5).trans q1
      have hc5' : w'.cell? ⟨b5, 0, none⟩ = some (.slice a5 m5 cap5) := by rw [cell_of_row w' b5 _ _ _ _ E5']; rfl
      have gr := hG.size
      clear hm5
      have yf := frozen_of_row w' b5 0 _ _ E5'
      gi_wp2_with (gi_at_builtin; refine appIn _ rfl _ _ 60 rfl _ _ rfl rfl _ _ hr ?_)
      have X5 : (w'.setCell ⟨b5, 0, none⟩ (.slice a' n' c')).heap[b5]? = some (.cells #[.slice a' n' c'] 60 (0, 0)) := by rw [heap_setCell_same w' b5 0 _ _ _ E5']; rfl
      have oth : ∀ q, q ≠ b5 → (w'.setCell ⟨b5, 0, none⟩ (.slice a' n' c')).heap[q]? = w'.heap[q]? := fun q hq => heap_setCell_other w' ⟨b5, 0, none⟩ q _ hq
      have sz : (w'.setCell ⟨b5, 0, none⟩ (.slice a' n' c')).heap.size = w'.heap.size := by simp
      have gr' : W.heap.size ≤ w'.heap.size := Nat.le_trans (by simp) gr
      have keep : ∀ q, q < W.heap.size → (Value.slice a5 m5 cap5).ownBlock ≠ some q → w'.heap[q]? = W.heap[q]? := fun q hq hn => (hG.block q (by simp; omega) (fun e => hn e.symm)).trans (box_below.block q hq)
      refine ⟨⟨by rw [sz]; exact gr', fun q o hq ho hc => ?_⟩, ⟨by rw [sz]; exact gr', fun q cur e hq hn hh => ?_, ?_⟩, ⟨_, X5, ?_⟩, ?_, ?_, ?_, ?_, ?_⟩
      · rw [oth q (by omega), keep q (lt_of_block' ho) (fun e => ?_)]
        · exact ho
        · obtain ⟨_, cur, hh⟩ := own_block q2 e
          rw [ho] at hh
          cases hh
          cases hc
      · rw [oth q (by omega), keep q (lt_of_block' hh) (fun e => hn ⟨_, q1, e⟩)]
      · rintro k ⟨v', z1, z2⟩
        rw [X5] at z1
        cases z1
        rcases hP k z2 with z | z
        · exact .inl ⟨_, q1, z⟩
        · exact .inr (Nat.le_trans (by simp) z)
      · refine own_same (by simpa using hO) (fun g hg => oth g (fun e => ?_))
        have := (own_block hO hg).1
        omega
      · have B1 : Below w.heap.size w w' := ⟨hG.os.trans q3.os, hG.tape.trans q3.tape, hG.output.trans q3.output, Nat.le_trans q3.size gr', fun q hq => (low q (by omega)).trans (q3.block q hq)⟩
        exact B1.setCell (p := ⟨b5, 0, none⟩) n5 _
      · rw [oth bt d1, low bt lt]; exact q4
      · rw [oth bc d2, low bc lc]; exact q5
      · rw [sz]; omega
      · simpa using hlen
  · rw [show (decide (t.first ≤ c) && decide (c ≤ t.last)) = false by simp; omega] at ch
    have eL : oopsL t c = [] := by unfold oopsL; rw [if_neg hh]
    rw [eL]
    gi_wp2_with (first
      | (gi_at_call 39; refine ch.mono ?_; rintro e w' ⟨rfl, rfl⟩))
    exact ⟨_, results_tmp rfl _ _ _, _, _, _, rfl, rfl, World.ownsRow_nil _ _ _ _, Below.refl _ _⟩
end Go.Proofs.Ytajdelinfkodbaa
