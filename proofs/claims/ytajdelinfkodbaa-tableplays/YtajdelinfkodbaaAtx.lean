/- What a table tells: has, At, Last, First, Changed; a new one. -/
import Derived.Test.YtajdelinfkodbaaApl
namespace Go.Proofs.Ytajdelinfkodbaa
open Go.RowKit
set_option maxRecDepth 100000
/-- The version that stands behind a commit, if it is no gone one. -/
def atC (xs : List Ch) (c : Int) : Option Ch := match (xs.filter fun x => decide (x.oop ≤ c)).getLast? with
  | none => none
  | some x => if x.gone = true then none else some x
def atO (t : Tab) (c k : Int) : Option Ch := if t.first ≤ c ∧ c ≤ t.last then atC (t.m k).vs c else none
def atE (t : Tab) (c k : Int) : Int := if t.first ≤ c ∧ c ≤ t.last then (match atC (t.m k).vs c with | none => 25 | some _ => 0) else 13
def clsO : Option Ch → Int | none => 0 | some x => x.cls
def vsO : Option Ch → List (Int × Int) | none => [] | some x => x.vs
def bsO : Option Ch → List Int | none => [] | some x => x.bs
theorem fnd_take {xs : List Ch} {c : Int} {L : Nat} (h : Fnd xs c L) : xs.filter (fun x => decide (x.oop ≤ c)) = xs.take L := by
  have gen : ∀ (xs : List Ch) (L : Nat), (∀ (i : Nat) (x : Ch), xs[i]? = some x → (i < L ↔ x.oop ≤ c)) → xs.filter (fun x => decide (x.oop ≤ c)) = xs.take L := by
    intro xs
    induction xs with
    | nil => intro L _; simp
    | cons x r ih =>
      intro L hf
      cases L with
      | zero =>
        rw [List.take_zero, List.filter_eq_nil_iff]
        intro y hy
        obtain ⟨i, hi⟩ := List.mem_iff_getElem?.1 hy
        have := hf i y hi
        simp
        omega
      | succ L =>
        have h0 := (hf 0 x rfl).1 (by omega)
        rw [List.filter_cons_of_pos (by simpa using h0), List.take_succ_cons, ih L (fun i y hi => by
          have := hf (i + 1) y (by simpa using hi)
          omega)]
  exact gen xs L h.2
theorem atC_none {xs : List Ch} {c : Int} {L : Nat} (h : Fnd xs c L) (hg : ∀ m x, L = m + 1 → xs[m]? = some x → x.gone = true) : atC xs c = none := by
  unfold atC
  rw [fnd_take h]
  cases L with
  | zero => rfl
  | succ m =>
    have hl : m < xs.length := h.1
    have e : (xs.take (m + 1)).getLast? = xs[m]? := by
      rw [List.getLast?_eq_getElem?, List.length_take, Nat.min_eq_left hl, Nat.succ_sub_one, List.getElem?_take, if_pos (by omega)]
    rw [e, List.getElem?_eq_getElem hl]
    have := hg m xs[m] rfl (List.getElem?_eq_getElem hl)
    simp [this]
theorem atC_some {xs : List Ch} {c : Int} {m : Nat} {x : Ch} (h : Fnd xs c (m + 1)) (hx : xs[m]? = some x) (hg : x.gone = false) : atC xs c = some x := by
  unfold atC
  rw [fnd_take h]
  have hl : m < xs.length := h.1
  have e : (xs.take (m + 1)).getLast? = xs[m]? := by
    rw [List.getLast?_eq_getElem?, List.length_take, Nat.min_eq_left hl, Nat.succ_sub_one, List.getElem?_take, if_pos (by omega)]
  rw [e, hx]
  simp [hg]
theorem atC_mem {xs : List Ch} {c : Int} {x : Ch} (h : atC xs c = some x) : x ∈ xs ∧ x.oop ≤ c ∧ x.gone = false := by
  unfold atC at h
  split at h
  · cases h
  · rename_i y hy
    split at h
    · cases h
    · cases h
      have := List.mem_of_getLast? hy
      rw [List.mem_filter] at this
      rename_i hg
      exact ⟨this.1, by simpa using this.2, by simpa using hg⟩
theorem look_nil (w : World) (k : Int) : (Instr.lookup 70 (.map none) (.int .i64 k) false).run Try.prog w = .ok (.agg #[.int .i64 0, .slice none 0 0]) w := by
  have hz := Try.zeroValue78 w
  have hck := run_checkKey (P := Try.prog) (w := w) (kt := 2) Try.underlying2
  have hf := run_findKey (P := Try.prog) (w := w) (kt := 2) Try.underlying2 k []
  simp at hf
  simp [Instr.lookup, run_underlying Try.underlying70, hz, hck, hf, Result.andThen]
/-- What a look-up tells. -/
theorem TbV.look {w : World} {S R : Nat → Prop} {mv : Option Nat} {m : Int → Past} (h : TbV w S R mv m) (hs : Sets w S R) (k : Int) : ∃ va vn vc, (Instr.lookup 70 (.map mv) (.int .i64 k) false).run Try.prog w = .ok (.agg #[.int .i64 (m k).chg, .slice va vn vc]) w ∧ RowT w S R (.slice va vn vc) (m k).vs ∧ vn = (m k).vs.length := by
  cases mv with
  | none =>
    refine ⟨none, 0, 0, ?_, ?_, ?_⟩
    · rw [h k]; exact look_nil w k
    · rw [h k]; exact RowT.nil _ _ _
    · rw [h k]; rfl
  | some mb =>
    obtain ⟨F, hM⟩ := h
    obtain ⟨va, vn, vc, h1, h2, h3⟩ := hM.get k
    exact ⟨va, vn, vc, by rw [apl_look hM hs (Below.refl _ _) k, h1], h2, h3⟩
theorem new_tab (w : World) : Calls Try.prog 8 #[] w fun e w' => e = .returned (.pointer (some ⟨w.heap.size, 0, none⟩)) ∧ w' = w.alloc (tabB 0 0 none) := by
  go_enter Try.func8, Try.ntmps8
  go_wp2
  go_ret
  exact ⟨rfl, rfl⟩
def tab0 : Tab := ⟨0, 0, fun _ => ⟨0, []⟩⟩
theorem Tb.new (w : World) : Tb (w.alloc (tabB 0 0 none)) (fun g => g = w.heap.size) (fun _ => False) w.heap.size tab0 := by
  refine ⟨⟨none, World.alloc_heap_new w _, fun _ => rfl⟩, rfl, ⟨fun g hg => by rw [hg]; simp, fun g hg => hg.elim, fun g hg => hg.elim, fun g cur e hg hh => ?_⟩, ⟨fun k => by simp [tab0], fun k i j x y _ hx => by simp [tab0] at hx, fun k x hx => by simp [tab0] at hx, fun k hk => by simp [tab0] at hk⟩, by decide⟩
  rw [hg, World.alloc_heap_new w _] at hh
  unfold tabB at hh
  cases hh
  exact .inl rfl
theorem has_any {w : World} {b : Nat} {f l : Int} {mv : Option Nat} (h : w.heap[b]? = some (tabB f l mv)) (c : Int) : Calls Try.prog 39 #[.pointer (some ⟨b, 0, none⟩), .int .i64 c] w fun e w' => e = .returned (.bool (decide (f ≤ c) && decide (c ≤ l))) ∧ w = w' := by
  obtain ⟨y0, y1, y2⟩ := tab_cells h
  by_cases hc : f ≤ c
  · go_enter Try.func39, Try.ntmps39
    go_wp2
    go_ret
    exact ⟨by simp [hc], rfl⟩
  · go_enter Try.func39, Try.ntmps39
    go_wp2
    go_ret
    exact ⟨by simp; omega, rfl⟩
theorem last_any {w : World} {b : Nat} {f l : Int} {mv : Option Nat} (h : w.heap[b]? = some (tabB f l mv)) : Calls Try.prog 22 #[.pointer (some ⟨b, 0, none⟩)] w fun e w' => e = .returned (.int .i64 l) ∧ w = w' := by
  obtain ⟨y0, y1, y2⟩ := tab_cells h
  go_enter Try.func22, Try.ntmps22
  go_wp2
  go_ret
  exact ⟨rfl, rfl⟩
theorem first_any {w : World} {b : Nat} {f l : Int} {mv : Option Nat} (h : w.heap[b]? = some (tabB f l mv)) : Calls Try.prog 23 #[.pointer (some ⟨b, 0, none⟩)] w fun e w' => e = .returned (.int .i64 f) ∧ w = w' := by
  obtain ⟨y0, y1, y2⟩ := tab_cells h
  go_enter Try.func23, Try.ntmps23
  go_wp2
  go_ret
  exact ⟨rfl, rfl⟩
theorem field78 (c : Int) (v : Value) (w : World) : (Instr.field 78 (.agg #[.int .i64 c, v]) 0).run Try.prog w = .ok (.int .i64 c) w := by
  have ha : (isAgg 2).run Try.prog w = .ok false w := by simp [isAgg, run_underlying Try.underlying2]
  simp [Instr.field, run_underlying Try.underlying78, part, asAgg, ha, go_sem]
theorem changed_any {w : World} {S R : Nat → Prop} {b : Nat} {t : Tab} (h : Tb w S R b t) (k : Int) : Calls Try.prog 24 #[.pointer (some ⟨b, 0, none⟩), .int .i64 k] w fun e w' => e = .returned (.int .i64 (t.m k).chg) ∧ w = w' := by
  obtain ⟨mv, hb, hV⟩ := h.blk
  obtain ⟨y0, y1, y2⟩ := tab_cells hb
  obtain ⟨va, vn, vc, hl, hq, hq'⟩ := hV.look h.sets k
  clear hq hq'
  have hfl := field78 (t.m k).chg (.slice va vn vc) w
  go_enter Try.func24, Try.ntmps24
  go_wp2
  go_ret
  exact ⟨rfl, rfl⟩
theorem Try.results19 : Try.f19.results = #[.cell 6 49, .tmp 7] := by kernel_rfl
/-- What At tells. -/
def AtQ (w : World) (t : Tab) (c k : Int) (e : Ending) (w' : World) : Prop := ∃ vv bv, e = .returned (.tuple #[.agg #[.int .i64 (clsO (atO t c k)), vv, bv], .int .i64 (atE t c k)]) ∧ OwnV w' w.heap.size vv (vsO (atO t c k)) ∧ OwnB w' w.heap.size bv (bsO (atO t c k)) ∧ Below w.heap.size w w'
theorem ownV_nil (w : World) (N : Nat) : OwnV w N (.slice none 0 0) [] := ⟨World.ownsRow_nil _ _ _ _, none, 0, rfl, isV_nil w⟩
theorem ownB_nil' (w : World) (N : Nat) : OwnB w N (.slice none 0 0) [] := ownB_of (World.ownsRow_nil _ _ _ _) (by simp)
set_option maxHeartbeats 4000000 in
theorem atT_any {w : World} {S R : Nat → Prop} {b : Nat} {t : Tab} (h : Tb w S R b t) (c k : Int) : Calls Try.prog 19 #[.pointer (some ⟨b, 0, none⟩), .int .i64 c, .int .i64 k] w fun e w' => AtQ w t c k e w' := by
  have E6 := new1 w (objB 0 (.slice none 0 0) (.slice none 0 0))
  have B6 : Below w.heap.size w (w.alloc (objB 0 (.slice none 0 0) (.slice none 0 0))) := box_below
  have h1 := h.below B6
  have l6 : w.heap.size ≤ w.heap.size := Nat.le_refl _
  unfold objB at E6 B6 h1
  go_enter Try.func19, Try.ntmps19
  go_upto_region 3 with fail
  generalize w.alloc (.cells #[.int .i64 0, .slice none 0 0, .slice none 0 0] 49) = w1 at *
  obtain ⟨b6, hb6⟩ : ∃ q, q = w.heap.size := ⟨_, rfl⟩
  rw [← hb6] at E6 ⊢
  replace l6 : w.heap.size ≤ b6 := Nat.le_of_eq hb6.symm
  clear hb6
  replace E6 : w1.heap[b6]? = some (objB 0 (.slice none 0 0) (.slice none 0 0)) := E6
  obtain ⟨z0, z1, z2, zf⟩ := obj_cells E6
  obtain ⟨mv, hb, hV⟩ := h1.blk
  have ch := has_any hb c
  go_wp2_with fail
  refine ch.mono ?_
  rintro e w2 ⟨rfl, rfl⟩
  clear ch
  by_cases hh : t.first ≤ c ∧ c ≤ t.last
  · rw [show (decide (t.first ≤ c) && decide (c ≤ t.last)) = true by simp [hh]]
    obtain ⟨y0, y1, y2⟩ := tab_cells hb
    obtain ⟨va, vn, vc, hl, hr, hvn⟩ := hV.look h1.sets k
    have hn : vn ≤ 4611686018427387903 := by have := h.good.len h.first0.2.2 k; omega
    have ca := at_any (t.m k).chg c hr.isC (h.good.rise k) hn
    have eO : atO t c k = atC (t.m k).vs c := by unfold atO; rw [if_pos hh]
    have eE : atE t c k = (match atC (t.m k).vs c with | none => 25 | some _ => 0) := by unfold atE; rw [if_pos hh]
    replace eO : Hid (atO t c k = atC (t.m k).vs c) := eO
    replace eE : Hid (atE t c k = (match atC (t.m k).vs c with | none => 25 | some _ => 0)) := eE
    clear hvn hn hh
    go_wp2_with fail
    refine ca.mono ?_
    rintro e w3 ⟨⟨L, hF, (⟨rfl, hg⟩ | ⟨m, x, sa, sn, sc, ba, bn, bc, rfl, hx, hg, rfl, hO⟩)⟩, B3⟩
    · have hn := atC_none hF hg
      rw [hn] at eO eE
      have F6 := (B3.block b6 (lt_of_block E6)).trans E6
      have BB := below_size B6 B6.size B3
      have G6 := (Below.heap_alloc w3 (objB 0 (.slice none 0 0) (.slice none 0 0)) b6 (lt_of_block F6)).trans F6
      have BC : Below w.heap.size w (w3.alloc (objB 0 (.slice none 0 0) (.slice none 0 0))) := below_size BB BB.size box_below
      clear hF hg hn z0 z1 z2 zf y0 y1 y2 hl ca B3 F6 BB
      unfold objB at G6 BC
      replace G6 : (w3.alloc (.cells #[.int .i64 0, .slice none 0 0, .slice none 0 0] 49)).heap[b6]? = some (objB 0 (.slice none 0 0) (.slice none 0 0)) := G6
      obtain ⟨z0, z1, z2, zf⟩ := obj_cells G6
      have H6 := stO_blk G6 0 (.slice none 0 0) (.slice none 0 0)
      have BD := stO_below BC l6 0 (.slice none 0 0) (.slice none 0 0)
      go_wp2
      clear z0 z1 z2 zf
      obtain ⟨z0, z1, z2, zf⟩ := obj_cells H6
      exact bodyPost_ret (v := .tuple #[.agg #[.int .i64 0, .slice none 0 0, .slice none 0 0], .int .i64 25]) (results_twoP Try.results19 rfl (load49 z0 z1 z2) rfl) rfl ⟨_, _, by rw [eO.out, eE.out]; rfl, by rw [eO.out]; exact ownV_nil _ _, by rw [eO.out]; exact ownB_nil' _ _, BD⟩
    · have hs := atC_some hF hx hg
      rw [hs] at eO eE
      have hv := h.good.ver k x (List.mem_of_getElem? hx)
      have hln := okCh_len hv.2.2
      have hsn : sn ≤ 8796093022208 := by have := hO.v.size; omega
      have hbn : bn ≤ 140737488355328 := by have := hO.b.size; omega
      have F6 := (B3.block b6 (lt_of_block E6)).trans E6
      have BB := below_size B6 B6.size B3
      have E8 := new1 w3 (objB x.cls (.slice sa sn sc) (.slice ba bn bc))
      have G6 := (Below.heap_alloc w3 (objB x.cls (.slice sa sn sc) (.slice ba bn bc)) b6 (lt_of_block F6)).trans F6
      have BC : Below w.heap.size w (w3.alloc (objB x.cls (.slice sa sn sc) (.slice ba bn bc))) := below_size BB BB.size box_below
      have hO4 := hO.below (box_below (o := objB x.cls (.slice sa sn sc) (.slice ba bn bc)))
      have hne : w3.heap.size ≠ b6 := by have := lt_of_block F6; omega
      clear hF hg hs hx z0 z1 z2 zf y0 y1 y2 hl ca B3 F6 BB hv hln hO
      unfold objB at G6 BC E8 hO4
      go_upto_region 8 with fail
      generalize w3.alloc (.cells #[.int .i64 x.cls, .slice sa sn sc, .slice ba bn bc] 49) = w4 at *
      replace G6 : w4.heap[b6]? = some (objB 0 (.slice none 0 0) (.slice none 0 0)) := G6
      replace E8 : w4.heap[w3.heap.size]? = some (objB x.cls (.slice sa sn sc) (.slice ba bn bc)) := E8
      generalize w3.heap.size = b8 at *
      obtain ⟨y0, y1, y2, yf⟩ := obj_cells E8
      have cc := copy_any hO4 hsn hbn
      go_wp2_with fail
      refine cc.mono ?_
      rintro e w5 ⟨vv, bv, rfl, OV, OB, B5⟩
      have H6 := (B5.block b6 (lt_of_block G6)).trans G6
      have BE := below_size BC BC.size B5
      have OV2 := OV.mono BC.size
      have OB2 := OB.mono BC.size
      obtain ⟨z0, z1, z2, zf⟩ := obj_cells H6
      obtain ⟨va', vn', vc', rfl⟩ := OV.shape'
      obtain ⟨ba', bn', bc', rfl⟩ := OB.shape'
      have I6 := stO_blk H6 x.cls (.slice va' vn' vc') (.slice ba' bn' bc')
      have BF := stO_below BE l6 x.cls (.slice va' vn' vc') (.slice ba' bn' bc')
      have OV3 := ownV_of (stO_own OV2.1 H6 (by decide) x.cls (.slice va' vn' vc') (.slice ba' bn' bc')) OV2.wf
      have OB3 := ownB_of (stO_own OB2.1 H6 (by decide) x.cls (.slice va' vn' vc') (.slice ba' bn' bc')) OB2.byte
      clear OV OB OV2 OB2 y0 y1 y2 yf cc hO4
      go_wp2
      clear z0 z1 z2 zf
      obtain ⟨z0, z1, z2, zf⟩ := obj_cells I6
      exact bodyPost_ret (v := .tuple #[.agg #[.int .i64 x.cls, .slice va' vn' vc', .slice ba' bn' bc'], .int .i64 0]) (results_twoP Try.results19 rfl (load49 z0 z1 z2) rfl) rfl ⟨_, _, by rw [eO.out, eE.out]; rfl, by rw [eO.out]; exact OV3, by rw [eO.out]; exact OB3, BF⟩
  · rw [show (decide (t.first ≤ c) && decide (c ≤ t.last)) = false by simp; omega]
    have eO : atO t c k = none := by unfold atO; rw [if_neg hh]
    have eE : atE t c k = 13 := by unfold atE; rw [if_neg hh]
    replace eO : Hid (atO t c k = none) := eO
    replace eE : Hid (atE t c k = 13) := eE
    have H6 := stO_blk E6 0 (.slice none 0 0) (.slice none 0 0)
    have BD := stO_below B6 l6 0 (.slice none 0 0) (.slice none 0 0)
    clear hh
    go_wp2
    clear z0 z1 z2 zf
    obtain ⟨z0, z1, z2, zf⟩ := obj_cells H6
    exact bodyPost_ret (v := .tuple #[.agg #[.int .i64 0, .slice none 0 0, .slice none 0 0], .int .i64 13]) (results_twoP Try.results19 rfl (load49 z0 z1 z2) rfl) rfl ⟨_, _, by rw [eO.out, eE.out]; rfl, by rw [eO.out]; exact ownV_nil _ _, by rw [eO.out]; exact ownB_nil' _ _, BD⟩
end Go.Proofs.Ytajdelinfkodbaa
