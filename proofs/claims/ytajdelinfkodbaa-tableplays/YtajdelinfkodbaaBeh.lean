/- The objects behind a commit by their oops, rising: an iterator. -/
import Derived.Test.YtajdelinfkodbaaFgt
import Derived.Test.YtajdelinfkodbaaRso
namespace Go.Proofs.Ytajdelinfkodbaa
open Go.RowKit Go.Shelf
attribute [local go_sem] Oper.semAt_some
set_option maxRecDepth 100000
/-- The oops of all objects behind a commit. -/
def liveK (t : Tab) (c : Int) : List Int := ((List.range 4096).map fun i : Nat => (i : Int) + 1).filter fun k => (atC (t.m k).vs c).isSome
theorem liveK_keys {t : Tab} {c : Int} {F : Int → Option Value} (hno : ∀ k, F k = none → t.m k = ⟨0, []⟩) : (keysL F).filter (fun k => (atC (t.m k).vs c).isSome) = liveK t c := by
  unfold keysL liveK
  rw [List.filter_filter]
  refine List.filter_congr (fun k _ => ?_)
  cases hF : F k with
  | none => rw [hno k hF]; rfl
  | some v => simp
theorem liveK_nil {t : Tab} {c : Int} (hno : ∀ k, t.m k = ⟨0, []⟩) : liveK t c = [] := by
  unfold liveK
  rw [List.filter_eq_nil_iff]
  intro k _
  rw [hno k]
  simp [atC]
theorem filter_at {α : Type} {p : α → Bool} {ks : List α} {j : Nat} {k : α} (hk : ks[j]? = some k) (hp : p k = true) : (ks.filter p)[((ks.take j).filter p).length]? = some k := by
  have hlt := (List.getElem?_eq_some_iff.1 hk).1
  have e : ks = ks.take j ++ k :: ks.drop (j + 1) := by
    rw [List.getElem?_eq_getElem hlt] at hk
    cases hk
    rw [List.getElem_cons_drop, List.take_append_drop]
  have e2 : ks.filter p = (ks.take j).filter p ++ k :: (ks.drop (j + 1)).filter p := by
    conv => lhs; rw [e]
    rw [List.filter_append, List.filter_cons_of_pos hp]
  rw [e2, List.getElem?_append_right (Nat.le_refl _), Nat.sub_self]
  rfl
/-- What the iterator reads. -/
def VB (W0 : World) (S R : Nat → Prop) (bt bc b : Nat) (c : Int) (_pre : List (Int × Value)) (W : World) : Prop :=
  W0.heap.size ≤ W.heap.size ∧ (∀ g, S g ∨ R g → W.heap[g]? = W0.heap[g]?) ∧ W.cell? ⟨bt, 0, none⟩ = some (.pointer (some ⟨b, 0, none⟩)) ∧ W.cell? ⟨bc, 0, none⟩ = some (.int .i64 c)
/-- What comes next. -/
def OkB (t : Tab) (c : Int) (pre : List (Int × Value)) (x : Int × Value) (W : World) : Prop :=
  (liveK t c)[pre.length]? = some x.1 ∧ ∃ y sa sn sc ba bn bc, atC (t.m x.1).vs c = some y ∧ x.2 = .agg #[.int .i64 y.cls, .slice sa sn sc, .slice ba bn bc] ∧ IsO W y.cls sa sn sc ba bn bc y.vs y.bs
theorem behind_any (n b : Nat) (c : Int) (w : World) : CallsIn Fence.wide n Try.prog 49 #[.pointer (some ⟨b, 0, none⟩), .int .i64 c] w fun e w' => e = .returned (.func (.func 64) #[] #[.pointer (some ⟨w.heap.size, 0, none⟩), .pointer (some ⟨w.heap.size + 1, 0, none⟩)]) ∧ w' = (w.alloc (.cells #[.pointer (some ⟨b, 0, none⟩)] 23)).alloc (.cells #[.int .i64 c] 2) := by
  refine callsIn_of_wp Try.func49 rfl trivial ?_ rfl
  simp only [Try.ntmps49, List.size_toArray, List.length_cons, List.length_nil, Nat.reduceAdd, Nat.reduceSub, Array.replicate_succ, Array.replicate_zero, List.push_toArray, List.append_toArray, List.nil_append, List.cons_append]
  gi_wp2
  go_ret
  exact ⟨rfl, rfl⟩
theorem TbM.at0 {W W0 : World} {S R : Nat → Prop} {mb : Nat} {F0 : Int → Option Value} {m : Int → Past} (h : TbM W0 S R mb F0 m) (hs : Sets W0 S R) (hk : ∀ g, S g ∨ R g → W.heap[g]? = W0.heap[g]?) : TbM W S R mb F0 m := h.same hs (fun _ h => h) (fun _ _ h => h) (fun _ h => h) hk
set_option maxHeartbeats 8000000 in
theorem beh_seq {n : Nat} (hn : 12 ≤ n) {W0 : World} {S R : Nat → Prop} {bt bc b : Nat} {t : Tab} (h : Tb W0 S R b t) (c : Int) :
    SeqW Fence.wide n Try.prog 64 #[.pointer (some ⟨bt, 0, none⟩), .pointer (some ⟨bc, 0, none⟩)] (fun x : Int × Value => #[.int .i64 x.1, x.2]) (VB W0 S R bt bc b c) (OkB t c) (fun xs => xs.map (·.1) = liveK t c) (fun _ => True) := by
  intro l J Jx O Wc hJ hJx hV hO1 hO2 hY h0
  have V0 := hV [] Wc h0
  obtain ⟨v0, v1, v2, v3⟩ := V0
  obtain ⟨mv, hblk, hTV⟩ := h.blk
  have h1 : 1 ≤ n := by omega
  have hf1 : Fence.wide.fn 40 := trivial
  have c2 : (Wc.alloc (.cells #[.func (.yield l) #[] #[]] 117)).cell? ⟨bt, 0, none⟩ = some (.pointer (some ⟨b, 0, none⟩)) := ((box_below (o := .cells #[.func (.yield l) #[] #[]] 117)).cell (p := ⟨bt, 0, none⟩) (lt_of_cell v2)).trans v2
  refine callsIn_of_wp_marks Try.func64 rfl trivial ?_ rfl
  simp only [Try.ntmps64, List.size_toArray, List.length_cons, List.length_nil, Nat.reduceAdd, Nat.reduceSub, Array.replicate_succ, Array.replicate_zero, List.push_toArray, List.append_toArray, List.nil_append, List.cons_append]
  gi_wp2_with (gi_at_call 40; refine (rising_any _ _ _).mono ?_; rintro e w' ⟨rfl, rfl⟩)
  have Ey : ((Wc.alloc (.cells #[.func (.yield l) #[] #[]] 117)).alloc (.cells #[.pointer (some ⟨b, 0, none⟩)] 23)).heap[Wc.heap.size]? = some (.cells #[.func (.yield l) #[] #[]] 117 (0, 0)) := old1 (new1 _ _) _
  have Ex : ((Wc.alloc (.cells #[.func (.yield l) #[] #[]] 117)).alloc (.cells #[.pointer (some ⟨b, 0, none⟩)] 23)).heap[Wc.heap.size + 1]? = some (.cells #[.pointer (some ⟨b, 0, none⟩)] 23 (0, 0)) := new2 _ _ _
  have BL : Below Wc.heap.size Wc ((Wc.alloc (.cells #[.func (.yield l) #[] #[]] 117)).alloc (.cells #[.pointer (some ⟨b, 0, none⟩)] 23)) := below_size box_below box_below.size box_below
  have jl := hJ [] Wc _ none h0 (grown_of_below BL) (fun r e => by cases e)
  obtain ⟨Wl, hWl⟩ : ∃ Wl, (Wc.alloc (.cells #[.func (.yield l) #[] #[]] 117)).alloc (.cells #[.pointer (some ⟨b, 0, none⟩)] 23) = Wl := ⟨_, rfl⟩
  have hsz : Hid (Wl.heap.size = Wc.heap.size + 2) := by show Wl.heap.size = Wc.heap.size + 2; rw [← hWl]; simp
  rw [hWl] at Ey Ex BL jl ⊢
  have lc : Wc.heap.size ≤ Wl.heap.size := BL.size
  clear hWl c2
  generalize hbx : Wc.heap.size + 1 = bx at *
  obtain ⟨by', hby⟩ : ∃ q, q = Wc.heap.size := ⟨_, rfl⟩
  rw [← hby] at Ey ⊢
  have hby' : Wc.heap.size ≤ by' := Nat.le_of_eq hby.symm
  have hbx' : Wc.heap.size ≤ bx := by omega
  clear hby hbx
  have ly := lt_of_block Ey
  have lx := lt_of_block Ex
  have nO : ∀ k, Wc.heap.size ≤ k → ¬ O Wl k := fun k hk hO => by
    have q1 := hO2 [] Wc Wl none h0 (grown_of_below BL) (fun r e => by cases e) k hO
    have q2 := hO1 [] Wc h0 k q1
    omega
  have nOx := nO bx hbx'
  have nOy := nO by' hby'
  have boxes : ∀ (q : Nat) (cur : Array Value) (e : Nat), OwnFrom Wl.heap.size (fun (_ : List Int) W => W.heap[q]? = some (.cells cur e (0, 0)) ∧ True) := fun q cur e => boxed_own'
  cases mv with
  | none =>
    have hm0 : ∀ k, t.m k = ⟨0, []⟩ := hTV
    refine rangeW (F := Fence.wide) (n := n) rfl h1 (gf := 55) (lb := #[.pointer (some ⟨bx, 0, none⟩)]) rfl trivial (enters_of Try.func55 (by kernel_rfl) rfl) (rising_seqO (n := n - 1) (by omega) (bx := bx) (b := b) (mv := none) (ks := []) (pv := fun _ => undef) List.Pairwise.nil (by simp)) (fun _ => rfl)
      (fun _ W => J [] W ∧ W.heap[bx]? = some (.cells #[.pointer (some ⟨b, 0, none⟩)] 23 (0, 0)) ∧ True) (fun _ _ _ => False) O (OwnFrom.and (I := fun (_ : List Int) W => J [] W) (fun s A B row hs hg hr => (ownFrom_up hJ lc) [] A B row hs hg hr) (boxes bx _ _)) (fun _ _ _ _ _ hs _ _ => hs) (fun pre W hi => ⟨?v1, ?v2, rfl⟩) (fun pre W hi => hO1 [] W hi.1) (fun pre W W2 row hi hg hr => hO2 [] W W2 row hi.1 hg (fun r e => ⟨Nat.le_trans lc (hr r e).1, (hr r e).2⟩)) (fun pre x => ownFrom_pure _ _) ⟨jl, Ex, trivial⟩ (fun _ _ _ => False) (fun _ _ _ _ _ _ hs _ _ => hs) ?assign ?body ?done ?stop
    case v1 => rw [cell_of_row W bx _ _ _ _ hi.2.1]; rfl
    case v2 =>
      obtain ⟨_, q, _, _⟩ := hV _ _ hi.1
      exact (tab_cells ((q b (.inl h.own)).trans hblk)).2.2
    case assign =>
      intro l' pre x W K _ hok
      simp at hok
    case body =>
      intro l' pre x a' W _ hok
      simp at hok
    case stop =>
      rintro D c' pre W _ _ hx
      exact hx.elim
    case done =>
      rintro D xs W hD rfl ⟨hj, _⟩ hK
      gi_wp2
      refine ⟨by simp, .inl ⟨_, _, rfl, run_takeDeferred hK, ?_⟩⟩
      refine ⟨_, results_none rfl _ _ _, ⟨_, rfl⟩, .inl ⟨[], (liveK_nil hm0).symm, hJ.putObj _ hj (by omega) hK rfl⟩⟩
  | some mb =>
    obtain ⟨F0, hM0⟩ := hTV
    obtain ⟨va, hva⟩ : ∃ va : Int → Option Addr, ∀ x, ∃ vn vc, (F0 x).getD (.agg #[.int .i64 0, .slice none 0 0]) = .agg #[.int .i64 (t.m x).chg, .slice (va x) vn vc] ∧ RowT W0 S R (.slice (va x) vn vc) (t.m x).vs ∧ vn = (t.m x).vs.length := ⟨fun x => Classical.choose (hM0.get x), fun x => Classical.choose_spec (hM0.get x)⟩
    obtain ⟨vn, hvn⟩ : ∃ vn : Int → Nat, ∀ x, ∃ vc, (F0 x).getD (.agg #[.int .i64 0, .slice none 0 0]) = .agg #[.int .i64 (t.m x).chg, .slice (va x) (vn x) vc] ∧ RowT W0 S R (.slice (va x) (vn x) vc) (t.m x).vs ∧ vn x = (t.m x).vs.length := ⟨fun x => Classical.choose (hva x), fun x => Classical.choose_spec (hva x)⟩
    obtain ⟨vc, hvc⟩ : ∃ vc : Int → Nat, ∀ x, (F0 x).getD (.agg #[.int .i64 0, .slice none 0 0]) = .agg #[.int .i64 (t.m x).chg, .slice (va x) (vn x) (vc x)] ∧ RowT W0 S R (.slice (va x) (vn x) (vc x)) (t.m x).vs ∧ vn x = (t.m x).vs.length := ⟨fun x => Classical.choose (hvn x), fun x => Classical.choose_spec (hvn x)⟩
    clear hva hvn
    replace hvc : Hid _ := hvc
    have hpv : ∀ k, F0 k ≠ none → F0 k = some (.agg #[.int .i64 (t.m k).chg, .slice (va k) (vn k) (vc k)]) := fun k hk => by
      have := (hvc.out k).1
      cases hF : F0 k with
      | none => exact absurd hF hk
      | some v => rw [hF] at this; exact congrArg some this
    have hlive : (keysL F0).filter (fun k => (atC (t.m k).vs c).isSome) = liveK t c := liveK_keys hM0.no
    replace hlive : Hid _ := hlive
    refine rangeW (F := Fence.wide) (n := n) rfl h1 (gf := 55) (lb := #[.pointer (some ⟨bx, 0, none⟩)]) rfl trivial (enters_of Try.func55 (by kernel_rfl) rfl) (rising_seqO (n := n - 1) (by omega) (bx := bx) (b := b) (mv := some mb) (ks := keysL F0) (pv := fun k => .agg #[.int .i64 (t.m k).chg, .slice (va k) (vn k) (vc k)]) (keysL_rise F0) (keysL_len F0)) (fun _ => rfl)
      (fun pre W => (∃ vs : List (Int × Value), (vs.map (·.1) = pre.filter (fun k => (atC (t.m k).vs c).isSome) ∧ pre = (keysL F0).take pre.length) ∧ J vs W) ∧ (W.heap[bx]? = some (.cells #[.pointer (some ⟨b, 0, none⟩)] 23 (0, 0)) ∧ True) ∧ (W.heap[by']? = some (.cells #[.func (.yield l) #[] #[]] 117 (0, 0)) ∧ True) ∧ Wl.heap.size ≤ W.heap.size ∧ ¬ O W bx ∧ ¬ O W by')
      (fun cd _ W => cd = .ret ∧ ∃ vs, Jx vs W) O
      (fun s A B row hs hg hr => by
        obtain ⟨⟨vs, q1, q2⟩, q3, q4, q5, q6, q7⟩ := hs
        have hr' : ∀ r, row = some r → Wc.heap.size ≤ r ∧ ∃ o : Obj, A.heap[r]? = some o ∧ o.isCells = false := fun r e => ⟨Nat.le_trans lc (hr r e).1, (hr r e).2⟩
        exact ⟨⟨vs, q1, hJ vs A B row q2 hg hr'⟩, boxes bx _ _ s A B row q3 hg hr, boxes by' _ _ s A B row q4 hg hr, Nat.le_trans q5 hg.size, fun hO => q6 (hO2 vs A B row q2 hg hr' bx hO), fun hO => q7 (hO2 vs A B row q2 hg hr' by' hO)⟩)
      (fun cd s A B row hs hg hr => by
        obtain ⟨e, vs, q2⟩ := hs
        exact ⟨e, vs, (ownFrom_up hJx lc) vs A B row q2 hg hr⟩)
      (fun pre W hi => ?vris) (fun pre W hi => by
        obtain ⟨⟨vs, _, hj⟩, _⟩ := hi
        exact hO1 vs W hj) (fun pre W W2 row hi hg hr => by
        obtain ⟨⟨vs, _, hj⟩, _⟩ := hi
        exact hO2 vs W W2 row hj hg (fun r e => ⟨Nat.le_trans lc (hr r e).1, (hr r e).2⟩)) (fun pre x => ownFrom_pure _ _) ⟨⟨[], ⟨rfl, rfl⟩, jl⟩, ⟨Ex, trivial⟩, ⟨Ey, trivial⟩, Nat.le_refl _, nOx, nOy⟩
      (fun x a' W => ∃ Bx, W.heap[Bx]? = some (.cells #[.int .i64 (t.m x).chg, .slice (va x) (vn x) (vc x)] 78 (0, 0)) ∧ (Wl.heap.size ≤ Bx ∧ a' = { tmps := #[.func (.yield l) #[] #[], .pointer (some ⟨bt, 0, none⟩), .pointer (some ⟨bc, 0, none⟩), .pointer (some ⟨by', 0, none⟩), .int .i64 x, .pointer (some ⟨Bx, 0, none⟩), undef, undef, .pointer (some ⟨b, 0, none⟩), .func (.func 55) #[] #[.pointer (some ⟨bx, 0, none⟩)], .int .i64 x, .agg #[.int .i64 (t.m x).chg, .slice (va x) (vn x) (vc x)], undef, undef, undef, undef, undef, undef, undef, undef, undef, undef, undef, undef, undef, undef], defers := [] }))
      (fun x a' s A B row hs hg hr => by
        obtain ⟨Bx, q1, q2⟩ := hs
        exact ⟨Bx, boxed_own' (β := Unit) (B := Wl.heap.size) (p := Wl.heap.size ≤ Bx ∧ a' = _) s A B row ⟨q1, q2⟩ hg hr⟩) ?assign ?body ?done ?stop
    case vris =>
      obtain ⟨⟨vs, ⟨_, hpre⟩, hj⟩, ⟨ex, _⟩, _⟩ := hi
      obtain ⟨_, q, _, _⟩ := hV _ _ hj
      have hM := hM0.at0 h.sets q
      refine ⟨by rw [cell_of_row W bx _ _ _ _ ex]; rfl, (tab_cells ((q b (.inl h.own)).trans hblk)).2.2, F0, hM.map, hM.dom, fun k => keysL_mem hM0.dom k, fun k hk => hpv k ((keysL_mem hM0.dom k).1 (List.mem_of_mem_drop hk))⟩
    case assign =>
      rintro l' pre x W K ⟨⟨vs, q, hj⟩, ⟨ex, _⟩, ⟨ey, _⟩, hsW, n1, n2⟩ hok hK
      have oO := hO2 vs W (W.alloc (.cells #[.int .i64 (t.m x).chg, .slice (va x) (vn x) (vc x)] 78)) none hj (World.grownBy_alloc W _ none) (fun r e => by cases e)
      have hj2 := hJ.alloc (.cells #[.int .i64 (t.m x).chg, .slice (va x) (vn x) (vc x)] 78) hj
      have e1 := (Below.heap_alloc W (.cells #[.int .i64 (t.m x).chg, .slice (va x) (vn x) (vc x)] 78) bx (lt_of_block ex)).trans ex
      have e2 := (Below.heap_alloc W (.cells #[.int .i64 (t.m x).chg, .slice (va x) (vn x) (vc x)] 78) by' (lt_of_block ey)).trans ey
      have e3 : Wl.heap.size ≤ (W.alloc (.cells #[.int .i64 (t.m x).chg, .slice (va x) (vn x) (vc x)] 78)).heap.size := by simp; omega
      gi_wp2
      exact hK _ _ ((KeepsOthers.alloc _ _).from _) (KcO.of_below box_below (fun k hk => .inl (oO k hk))) ⟨⟨vs, q, hj2⟩, ⟨e1, trivial⟩, ⟨e2, trivial⟩, e3, fun h => n1 (oO _ h), fun h => n2 (oO _ h)⟩ hok ⟨W.heap.size, new1 _ _, hsW, rfl⟩
    case stop =>
      rintro D cd pre W hD _ ⟨rfl, vs, hx⟩ hK
      gi_wp2
      refine ⟨by simp, .inl ⟨_, _, rfl, run_takeDeferred hK, ?_⟩⟩
      exact ⟨_, results_none rfl _ _ _, ⟨_, rfl⟩, .inr ⟨vs, trivial, hJx.putObj _ hx (by omega) hK rfl⟩⟩
    case done =>
      rintro D xs W hD rfl ⟨⟨vs, ⟨q1, _⟩, hj⟩, _⟩ hK
      rw [hlive.out] at q1
      gi_wp2
      refine ⟨by simp, .inl ⟨_, _, rfl, run_takeDeferred hK, ?_⟩⟩
      exact ⟨_, results_none rfl _ _ _, ⟨_, rfl⟩, .inl ⟨vs, q1, hJ.putObj _ hj (by omega) hK rfl⟩⟩
    case body =>
      rintro l' pre x a' W ⟨⟨vs, ⟨q1, hpre⟩, hj⟩, ⟨ex, _⟩, ⟨ey, _⟩, hsW, n1, n2⟩ hok ⟨Bx, EX, hBx, rfl⟩
      obtain ⟨u0, u1, u2, u3⟩ := hV vs W hj
      have hxk : x ∈ keysL F0 := List.mem_of_getElem? hok
      have hrow : RowT W S R (.slice (va x) (vn x) (vc x)) (t.m x).vs := (hvc.out x).2.1.same (fun _ h => h) (fun _ _ h => h) (fun _ h => h) (fun g _ hg => u1 g (.inr hg)) (fun g hg => u1 g ((hvc.out x).2.1.block hg).1)
      have hnn : vn x ≤ 4611686018427387903 := by have h1 := h.good.len h.first0.2.2 x; have h2 := (hvc.out x).2.2; omega
      have ca := CallsIn.inRound l' (callsIn_wide (n := n - 1 - 1 - 1) |>.2 (at_any (t.m x).chg c hrow.isC (h.good.rise x) hnn))
      obtain ⟨x0, x1⟩ := rec_cells (show W.heap[Bx]? = some (recB (t.m x).chg (.slice (va x) (vn x) (vc x)) 78) from EX)
      have hpre2 : pre ++ [x] = (keysL F0).take (pre ++ [x]).length := by
        rw [List.length_append, List.length_singleton, take_at hok, ← hpre]
      have hf46 : (Fence.wide.inRound l').fn 46 := trivial
      replace hpre : Hid _ := hpre
      replace hpre2 : Hid _ := hpre2
      gi_wp2_with fail
      refine ⟨trivial, fun hd => (by cases hd), ca.mono ?_⟩
      rintro e w3 ⟨⟨L, hF, (⟨rfl, hg⟩ | ⟨m, y, sa, sn, sc, ba, bn, bq, rfl, hy, hg, rfl, hO⟩)⟩, B3⟩
      · have hnone := atC_none hF hg
        have B4 : Below W.heap.size W (w3.alloc (.cells #[.int .i64 0, .slice none 0 0, .slice none 0 0] 49)) := below_size B3 B3.size box_below
        have hj4 := hJ vs W _ none hj (grown_of_below B4) (fun r e => by cases e)
        have oO := hO2 vs W _ none hj (grown_of_below B4) (fun r e => by cases e)
        have m1 := fun h => n1 (oO bx h)
        have m2 := fun h => n2 (oO by' h)
        have e1 := (B4.block bx (lt_of_block ex)).trans ex
        have e2 := (B4.block by' (lt_of_block ey)).trans ey
        have e3 := Nat.le_trans hsW B4.size
        have q2 : vs.map (·.1) = (pre ++ [x]).filter (fun k => (atC (t.m k).vs c).isSome) := by
          rw [List.filter_append, q1, List.filter_cons_of_neg (p := fun k => (atC (t.m k).vs c).isSome) (by rw [hnone]; simp)]
          simp
        replace q2 : Hid _ := q2
        clear ca hF hg hnone
        gi_wp2
        refine ⟨fun _ h => (by cases h), ?_⟩
        gi_wp2
        exact ⟨⟨B4.size, fun k o _ hk _ => (B4.block k (Array.getElem?_eq_some_iff.1 hk).1).trans hk⟩, KcO.of_below B4 (fun k hk => .inl (oO k hk)), ⟨vs, ⟨q2.out, hpre2.out⟩, hj4⟩, ⟨e1, trivial⟩, ⟨e2, trivial⟩, e3, m1, m2⟩
      · have hsome := atC_some hF hy hg
        have B4 : Below W.heap.size W (w3.alloc (.cells #[.int .i64 y.cls, .slice sa sn sc, .slice ba bn bq] 49)) := below_size B3 B3.size box_below
        have E6 := new1 w3 (.cells #[.int .i64 y.cls, .slice sa sn sc, .slice ba bn bq] 49)
        have hO4 := hO.below (box_below (o := .cells #[.int .i64 y.cls, .slice sa sn sc, .slice ba bn bq] 49))
        have hj4 := hJ vs W _ none hj (grown_of_below B4) (fun r e => by cases e)
        have oO := hO2 vs W _ none hj (grown_of_below B4) (fun r e => by cases e)
        have m1 := fun h => n1 (oO bx h)
        have m2 := fun h => n2 (oO by' h)
        have e1 := (B4.block bx (lt_of_block ex)).trans ex
        have e2 := (B4.block by' (lt_of_block ey)).trans ey
        have e3 := Nat.le_trans hsW B4.size
        have hlv : (atC (t.m x).vs c).isSome = true := by rw [hsome]; rfl
        have q2 : (vs ++ [(x, Value.agg #[.int .i64 y.cls, .slice sa sn sc, .slice ba bn bq])]).map (·.1) = (pre ++ [x]).filter (fun k => (atC (t.m k).vs c).isSome) := by
          rw [List.filter_append, List.map_append, q1, List.filter_cons_of_pos (p := fun k => (atC (t.m k).vs c).isSome) hlv]
          rfl
        have hvl : vs.length = (((keysL F0).take pre.length).filter (fun k => (atC (t.m k).vs c).isSome)).length := by
          rw [← hpre.out, ← q1, List.length_map]
        have hokB : OkB t c vs (x, Value.agg #[.int .i64 y.cls, .slice sa sn sc, .slice ba bn bq]) (w3.alloc (.cells #[.int .i64 y.cls, .slice sa sn sc, .slice ba bn bq] 49)) := by
          refine ⟨?_, y, sa, sn, sc, ba, bn, bq, hsome, rfl, hO4⟩
          rw [hvl, ← hlive.out]
          exact filter_at hok hlv
        obtain ⟨fn, tmps, assign, body, hyy, hR⟩ := hY vs _ _ hj4 hokB
        have hR2 := round_any (l2 := l') (m' := n - 1 - 1 - 1) hR
        dsimp only at hyy
        replace q2 : Hid _ := q2
        clear ca hF hg hsome hlv hvl hokB hR hO hO4 hj4 hy
        have z0 : (w3.alloc (.cells #[.int .i64 y.cls, .slice sa sn sc, .slice ba bn bq] 49)).cell? ⟨w3.heap.size, 0, none⟩ = some (.int .i64 y.cls) := by rw [cell_of_row (w3.alloc (.cells #[.int .i64 y.cls, .slice sa sn sc, .slice ba bn bq] 49)) _ _ _ _ _ E6]; rfl
        have z1 : (w3.alloc (.cells #[.int .i64 y.cls, .slice sa sn sc, .slice ba bn bq] 49)).cell? ⟨w3.heap.size, 1, none⟩ = some (.slice sa sn sc) := by rw [cell_of_row (w3.alloc (.cells #[.int .i64 y.cls, .slice sa sn sc, .slice ba bn bq] 49)) _ _ _ _ _ E6]; rfl
        have z2 : (w3.alloc (.cells #[.int .i64 y.cls, .slice sa sn sc, .slice ba bn bq] 49)).cell? ⟨w3.heap.size, 2, none⟩ = some (.slice ba bn bq) := by rw [cell_of_row (w3.alloc (.cells #[.int .i64 y.cls, .slice sa sn sc, .slice ba bn bq] 49)) _ _ _ _ _ E6]; rfl
        have zy : (w3.alloc (.cells #[.int .i64 y.cls, .slice sa sn sc, .slice ba bn bq] 49)).cell? ⟨by', 0, none⟩ = some (.func (.yield l) #[] #[]) := by rw [cell_of_row (w3.alloc (.cells #[.int .i64 y.cls, .slice sa sn sc, .slice ba bn bq] 49)) _ _ _ _ _ e2]; rfl
        have kf1 : KeepsFrom Wl.heap.size W (w3.alloc (.cells #[.int .i64 y.cls, .slice sa sn sc, .slice ba bn bq] 49)) := ⟨B4.size, fun k o _ hk _ => (B4.block k (Array.getElem?_eq_some_iff.1 hk).1).trans hk⟩
        have kc1 : KcO O Wl.heap.size W (w3.alloc (.cells #[.int .i64 y.cls, .slice sa sn sc, .slice ba bn bq] 49)) := KcO.of_below B4 (fun k hk => .inl (oO k hk))
        gi_wp2
        refine ⟨fun hd => (by cases hd), hR2.mono ?_⟩
        rintro e W5 (⟨rfl, hJ5, kc5, kf5⟩ | ⟨rfl, hJx5, kf5⟩)
        · have e1' := (kc5.keep bx _ _ hbx' m1 e1).trans e1
          have e2' := (kc5.keep by' _ _ hby' m2 e2).trans e2
          have m1' : ¬ O W5 bx := fun hO => (kc5.new bx hO).elim m1 (fun q => by have := lt_of_block e1; omega)
          have m2' : ¬ O W5 by' := fun hO => (kc5.new by' hO).elim m2 (fun q => by have := lt_of_block e2; omega)
          have e3' := Nat.le_trans e3 kf5.size
          clear hyy hR2
          gi_wp2
          exact ⟨kf1.trans (KeepsFrom.upTo kf5 lc), kc1.trans (kc5.up lc), ⟨_, ⟨q2.out, hpre2.out⟩, hJ5⟩, ⟨e1', trivial⟩, ⟨e2', trivial⟩, e3', m1', m2'⟩
        · clear hyy hR2
          gi_wp2
          exact ⟨kf1.trans (KeepsFrom.upTo kf5 lc), rfl, _, hJx5⟩
end Go.Proofs.Ytajdelinfkodbaa
