/- Blocks and slices of bytes that stay as they are, held together; the statements' own small, sum, product and same. -/
import Derived.Test.YtgammgdckneoiacDoorCan
import Derived.Test.YtgammgdckneoiacDoorGiven
import Derived.Test.YtgammgdckneoiacDoorAnyG
import Derived.Lib.Bytes
namespace Go.Proofs.YtgammgdckneoiacDoor
open Go.RowKit

theorem OwnB.isB {w : World} {base n c : Nat} {a : Option Addr} {xs : List Int} (h : OwnB w base (.slice a n c) xs) : IsB w a n c xs := by
  obtain ⟨_, a', c', hv, hI⟩ := h
  injection hv with h1 h2 h3
  subst h1 h2 h3
  exact hI
/-- What blocks hold. -/
def Blk (w : World) (L : List (Nat × Obj)) : Prop := ∀ p ∈ L, w.heap[p.1]? = some p.2
theorem Blk.nil (w : World) : Blk w [] := fun _ h => absurd h (by simp)
theorem Blk.below {w w' : World} {L : List (Nat × Obj)} (h : Blk w L) (hb : Below w.heap.size w w') : Blk w' L := fun p hp => (hb.block _ (lt_of_block (h p hp))).trans (h p hp)
theorem Blk.add {w : World} {L : List (Nat × Obj)} (h : Blk w L) (o : Obj) : Blk (w.alloc o) ((w.heap.size, o) :: L) := by
  intro p hp
  rcases List.mem_cons.1 hp with rfl | hp
  · exact heap_alloc_new w o
  · exact (Below.heap_alloc w o _ (lt_of_block (h p hp))).trans (h p hp)
theorem Blk.get {w : World} {L : List (Nat × Obj)} (h : Blk w L) (i : Nat) {b : Nat} {o : Obj} (hi : L[i]? = some (b, o)) : w.heap[b]? = some o := h (b, o) (List.mem_of_getElem? hi)
/-- A slice of bytes. -/
structure Sl where
  a : Option Addr
  l : Nat
  c : Nat
  xs : List Int
def Sls (w : World) (M : List Sl) : Prop := ∀ s ∈ M, IsB w s.a s.l s.c s.xs
theorem Sls.nil (w : World) : Sls w [] := fun _ h => absurd h (by simp)
theorem Sls.below {w w' : World} {M : List Sl} (h : Sls w M) (hb : Below w.heap.size w w') : Sls w' M := fun s hs => (h s hs).below hb
theorem Sls.add {w : World} {M : List Sl} (h : Sls w M) {a : Option Addr} {l c : Nat} {xs : List Int} (hI : IsB w a l c xs) : Sls w (⟨a, l, c, xs⟩ :: M) := by
  intro s hs
  rcases List.mem_cons.1 hs with rfl | hs
  · exact hI
  · exact h s hs
theorem Sls.get {w : World} {M : List Sl} (h : Sls w M) (i : Nat) {a : Option Addr} {l c : Nat} {xs : List Int} (hi : M[i]? = some ⟨a, l, c, xs⟩) : IsB w a l c xs := h ⟨a, l, c, xs⟩ (List.mem_of_getElem? hi)
theorem alloc_below (w : World) (o : Obj) : Below w.heap.size w (w.alloc o) := (Below.refl _ _).alloc (Nat.le_refl _) o

set_option maxRecDepth 100000 in
set_option maxHeartbeats 1000000 in
theorem small_any {a : Option Addr} {len cap : Nat} {xs : List Int} {w : World} (neg : Bool) (h : IsB w a len cap xs) :
    Calls Tryd.prog 6 #[.agg #[.bool neg, .slice a len cap]] w fun e w' => e = .returned (.bool (rightB neg xs && decide (len ≤ 40))) ∧ Below w.heap.size w w' := by
  have hb := box_below w (.cells #[.bool neg, .slice a len cap] 24)
  have z := heap_alloc_new w (.cells #[.bool neg, .slice a len cap] 24)
  have hI := h.below hb
  have hm := h.most
  have hr := h.room
  unfold maxLen at hm
  go_enter Tryd.func6, Tryd.ntmps6
  go_wp2_with fail
  generalize w.alloc (.cells #[.bool neg, .slice a len cap] 24) = w1 at *
  refine (rright_any neg hI).mono ?_
  rintro e w2 ⟨rfl, hb2⟩
  replace z := (hb2.block _ (lt_of_block z)).trans z
  have hB := below_size hb (Nat.le_refl _) hb2
  obtain ⟨z0, z1, _, _⟩ := intVarT z
  cases hq : rightB neg xs with
  | false =>
    go_wp2
    go_ret
    exact ⟨ret_bool (by rw [hq]; rfl), hB⟩
  | true =>
    by_cases hl : len ≤ 40
    · have hl' : (len : Int) ≤ 40 := by omega
      go_wp2
      go_ret
      exact ⟨ret_bool (by rw [hq, decide_eq_true hl]; rfl), hB⟩
    · have hl' : decide ((len : Int) ≤ 40) = false := decide_eq_false (by omega)
      go_wp2
      go_ret
      exact ⟨ret_bool (by rw [hq, decide_eq_false hl]; rfl), hB⟩

set_option maxRecDepth 100000 in
set_option maxHeartbeats 4000000 in
theorem lsum_any {a1 a2 : Option Addr} {l1 l2 c1 c2 : Nat} {x y : Int} {w : World} (h1 : IsB w a1 l1 c1 (cM x)) (h2 : IsB w a2 l2 c2 (cM y)) (f1 : Fit 128 x) (f2 : Fit 128 y) (f : Fit 128 (x + y)) :
    Calls Tryd.prog 9 #[.agg #[.bool (cB x), .slice a1 l1 c1], .agg #[.bool (cB y), .slice a2 l2 c2]] w fun e w' => ∃ a c, e = .returned (.tuple #[.agg #[.bool (cB (x + y)), .slice a (cM (x + y)).length c], .bool true]) ∧ IsB w' a (cM (x + y)).length c (cM (x + y)) ∧ Below w.heap.size w w' := by
  obtain ⟨z0, z1, z2, hb, hs3⟩ := alloc3 w (.cells #[.bool (cB x), .slice a1 l1 c1] 27) (.cells #[.bool (cB y), .slice a2 l2 c2] 27) (.cells #[.bool false, .slice none 0 0] 27)
  obtain ⟨e1, e2, e3⟩ := add_can f1 f2 f
  have c := add_any (cB x) (cB y) (h1.below hb) (h2.below hb)
  rw [e1, e2, e3] at c
  clear e1 e2 e3
  go_enter Tryd.func9, Tryd.ntmps9
  go_wp2_with fail
  generalize (((w.alloc (.cells #[.bool (cB x), .slice a1 l1 c1] 27)).alloc (.cells #[.bool (cB y), .slice a2 l2 c2] 27)).alloc (.cells #[.bool false, .slice none 0 0] 27)) = w1 at *
  refine c.mono ?_
  rintro e w2 ⟨v, rfl, hO, hb2⟩
  obtain ⟨a, k, rfl, hI⟩ := hO.2
  obtain ⟨bb, Hb⟩ : ∃ b, Hid (cB (x + y) = b) := ⟨_, rfl⟩
  obtain ⟨m, Hm⟩ : ∃ m, Hid (cM (x + y) = m) := ⟨_, rfl⟩
  rw [Hm.out] at hI hO ⊢
  rw [Hb.out]
  have hB := below_size hb (Nat.le_refl _) hb2
  have u2 := (hb2.block _ (lt_of_block z2)).trans z2
  have b3 := alloc_below w2 (.cells #[.bool bb, .slice a m.length k] 27)
  have t2 := (b3.block _ (lt_of_block u2)).trans u2
  have t3 := heap_alloc_new w2 (.cells #[.bool bb, .slice a m.length k] 27)
  have hB3 := below_size hB (Nat.le_refl _) b3
  have hI3 := hO.below b3
  have hsz := hb2.size
  rw [hs3] at hsz hI3
  obtain ⟨q0, q1, qf0, qf1⟩ := intVar t2
  obtain ⟨p0, p1, _, _⟩ := intVar t3
  clear c hb hb2 z0 z1 z2 h1 h2 hI hO u2 b3 hB
  go_wp2
  exact bodyPost_ret (v := .tuple #[.agg #[.bool bb, .slice a m.length k], .bool true]) (by simp [results, Tryd.results9, go_sem, q0, q1]) rfl ⟨a, k, by rw [Hb.out, Hm.out], by rw [Hm.out]; exact (OwnB.put (base := w.heap.size + 3) (b := w.heap.size + 2) (b0 := w.heap.size) hI3 (by omega) (by omega)).isB, below_put (b := w.heap.size + 2) hB3 (by omega)⟩


/- second part -/
set_option maxRecDepth 100000 in
set_option maxHeartbeats 4000000 in
theorem lprod_any {a1 a2 : Option Addr} {l1 l2 c1 c2 : Nat} {x y : Int} {w : World} (h1 : IsB w a1 l1 c1 (cM x)) (h2 : IsB w a2 l2 c2 (cM y)) (f1 : Fit 128 x) (f2 : Fit 128 y) (f : Fit 128 (x * y)) :
    Calls Tryd.prog 10 #[.agg #[.bool (cB x), .slice a1 l1 c1], .agg #[.bool (cB y), .slice a2 l2 c2]] w fun e w' => ∃ a c, e = .returned (.tuple #[.agg #[.bool (cB (x * y)), .slice a (cM (x * y)).length c], .bool true]) ∧ IsB w' a (cM (x * y)).length c (cM (x * y)) ∧ Below w.heap.size w w' := by
  obtain ⟨z0, z1, z2, hb, hs3⟩ := alloc3 w (.cells #[.bool (cB x), .slice a1 l1 c1] 27) (.cells #[.bool (cB y), .slice a2 l2 c2] 27) (.cells #[.bool false, .slice none 0 0] 27)
  obtain ⟨e1, e2, e3⟩ := mul_can f1 f2 f
  have c := mul_any (cB x) (cB y) (h1.below hb) (h2.below hb)
  rw [e1, e2, e3] at c
  clear e1 e2 e3
  go_enter Tryd.func10, Tryd.ntmps10
  go_wp2_with fail
  generalize (((w.alloc (.cells #[.bool (cB x), .slice a1 l1 c1] 27)).alloc (.cells #[.bool (cB y), .slice a2 l2 c2] 27)).alloc (.cells #[.bool false, .slice none 0 0] 27)) = w1 at *
  refine c.mono ?_
  rintro e w2 ⟨v, rfl, hO, hb2⟩
  obtain ⟨a, k, rfl, hI⟩ := hO.2
  obtain ⟨bb, Hb⟩ : ∃ b, Hid (cB (x * y) = b) := ⟨_, rfl⟩
  obtain ⟨m, Hm⟩ : ∃ m, Hid (cM (x * y) = m) := ⟨_, rfl⟩
  rw [Hm.out] at hI hO ⊢
  rw [Hb.out]
  have hB := below_size hb (Nat.le_refl _) hb2
  have u2 := (hb2.block _ (lt_of_block z2)).trans z2
  have b3 := alloc_below w2 (.cells #[.bool bb, .slice a m.length k] 27)
  have t2 := (b3.block _ (lt_of_block u2)).trans u2
  have t3 := heap_alloc_new w2 (.cells #[.bool bb, .slice a m.length k] 27)
  have hB3 := below_size hB (Nat.le_refl _) b3
  have hI3 := hO.below b3
  have hsz := hb2.size
  rw [hs3] at hsz hI3
  obtain ⟨q0, q1, qf0, qf1⟩ := intVar t2
  obtain ⟨p0, p1, _, _⟩ := intVar t3
  clear c hb hb2 z0 z1 z2 h1 h2 hI hO u2 b3 hB
  go_wp2
  exact bodyPost_ret (v := .tuple #[.agg #[.bool bb, .slice a m.length k], .bool true]) (by simp [results, Tryd.results10, go_sem, q0, q1]) rfl ⟨a, k, by rw [Hb.out, Hm.out], by rw [Hm.out]; exact (OwnB.put (base := w.heap.size + 3) (b := w.heap.size + 2) (b0 := w.heap.size) hI3 (by omega) (by omega)).isB, below_put (b := w.heap.size + 2) hB3 (by omega)⟩


theorem str_inj {xs ys : List Int} (hx : ∀ x ∈ xs, 0 ≤ x ∧ x < 256) (hy : ∀ x ∈ ys, 0 ≤ x ∧ x < 256) (h : (strOfNums xs).toList = (strOfNums ys).toList) : xs = ys := by
  have e : xs.map (fun n => UInt8.ofNat n.toNat) = ys.map (fun n => UInt8.ofNat n.toNat) := by rw [Lib.strOfNums_toList, Lib.strOfNums_toList] at h; exact h
  have hl : xs.length = ys.length := by simpa using congrArg List.length e
  apply List.ext_getElem hl
  intro i h1 h2
  have e2 : (xs.map (fun n => UInt8.ofNat n.toNat))[i]? = (ys.map (fun n => UInt8.ofNat n.toNat))[i]? := by rw [e]
  rw [List.getElem?_map, List.getElem?_map, List.getElem?_eq_getElem h1, List.getElem?_eq_getElem h2] at e2
  simp only [Option.map_some, Option.some.injEq] at e2
  have e3 := congrArg UInt8.toNat e2
  have a := hx _ (List.getElem_mem h1)
  have b := hy _ (List.getElem_mem h2)
  rw [UInt8.toNat_ofNat', UInt8.toNat_ofNat', Nat.mod_eq_of_lt (by omega), Nat.mod_eq_of_lt (by omega)] at e3
  omega
theorem cB_cM {x y : Int} (h1 : cB x = cB y) (h2 : cM x = cM y) : x = y := by
  rw [← Z_can x, ← Z_can y, h1, h2]
set_option maxRecDepth 100000 in
set_option maxHeartbeats 1000000 in
theorem rsame_any {a1 a2 : Option Addr} {l1 l2 c1 c2 : Nat} {x y : Int} {w : World} (h1 : IsB w a1 l1 c1 (cM x)) (h2 : IsB w a2 l2 c2 (cM y)) :
    Calls Tryd.prog 26 #[.agg #[.bool (cB x), .slice a1 l1 c1], .agg #[.bool (cB y), .slice a2 l2 c2]] w fun e w' => e = .returned (.bool (decide (x = y))) ∧ Below w.heap.size w w' := by
  by_cases hxy : x = y
  · subst hxy
    rw [decide_eq_true rfl]
    exact same_true (cB x) h1 h2
  · rw [decide_eq_false hxy]
    have hb : Below w.heap.size w ((w.alloc (.cells #[.bool (cB x), .slice a1 l1 c1] 24)).alloc (.cells #[.bool (cB y), .slice a2 l2 c2] 24)) := (box_below w _).alloc (by simp) _
    by_cases hc : cB x = cB y
    · have hne : (strOfNums (cM x)).toList ≠ (strOfNums (cM y)).toList := fun h => hxy (cB_cM hc (str_inj (cM_byte x) (cM_byte y) h))
      have s1 := (h1.below hb).str
      have s2 := (h2.below hb).str
      have hd : ((strOfNums (cM x)).toList == (strOfNums (cM y)).toList) = false := by simpa using hne
      rw [← hc] at hb s1 s2 ⊢
      clear h1 h2 hc
      generalize cB x = b at *
      generalize strOfNums (cM x) = sx at *
      generalize strOfNums (cM y) = sy at *
      go_enter Tryd.func26, Tryd.ntmps26
      go_wp2
      all_goals (go_ret; exact ⟨rfl, hb⟩)
    · have hd : (cB x == cB y) = false := by simpa using hc
      clear h1 h2
      generalize cB x = b at *
      generalize cB y = d at *
      go_enter Tryd.func26, Tryd.ntmps26
      go_wp2
      all_goals (go_ret; exact ⟨rfl, hb⟩)

set_option maxRecDepth 100000 in
set_option maxHeartbeats 4000000 in
theorem lsame_any {a1 a2 : Option Addr} {l1 l2 c1 c2 : Nat} {x y : Int} {w : World} (h1 : IsB w a1 l1 c1 (cM x)) (h2 : IsB w a2 l2 c2 (cM y)) :
    Calls Tryd.prog 12 #[.agg #[.bool (cB x), .slice a1 l1 c1], .agg #[.bool (cB y), .slice a2 l2 c2]] w fun e w' => e = .returned (.bool (decide (x = y))) ∧ Below w.heap.size w w' := by
  have hb : Below w.heap.size w ((w.alloc (.cells #[.bool (cB x), .slice a1 l1 c1] 27)).alloc (.cells #[.bool (cB y), .slice a2 l2 c2] 27)) := (box_below w _).alloc (by simp) _
  have z0 := heap_alloc2_old w (.cells #[.bool (cB x), .slice a1 l1 c1] 27) (.cells #[.bool (cB y), .slice a2 l2 c2] 27)
  have z1 := heap_alloc2_new w (.cells #[.bool (cB x), .slice a1 l1 c1] 27) (.cells #[.bool (cB y), .slice a2 l2 c2] 27)
  have k1 := h1.below hb
  have k2 := h2.below hb
  go_enter Tryd.func12, Tryd.ntmps12
  go_wp2
  generalize (w.alloc (.cells #[.bool (cB x), .slice a1 l1 c1] 27)).alloc (.cells #[.bool (cB y), .slice a2 l2 c2] 27) = w1 at *
  refine wp_region_inv' (fun A D a w' => ∃ v5 v6 v7 v8 v9 v4, a = ((((((A.put (some 5) v5).put (some 6) v6).put (some 7) v7).put (some 8) v8).put (some 9) v9).put (some 4) v4) ∧ Below w1.heap.size w1 w' ∧ (D 0 → v5 = .agg #[.bool (cB x), .slice a1 l1 c1]) ∧ (D 1 → v6 = .agg #[.bool (cB x), .slice a1 l1 c1]) ∧ (D 2 → v7 = .agg #[.bool (cB y), .slice a2 l2 c2]) ∧ (D 3 → v8 = .agg #[.bool (cB y), .slice a2 l2 c2]) ∧ (D 4 → v9 = .bool (decide (x = y))) ∧ (D 5 → v4 = .bool (decide (x = y)))) (by kernel_rfl) (by kernel_rfl) ?mono ?start ?step ?done
  case mono =>
    rintro D D' a w' hD ⟨v5, v6, v7, v8, v9, v4, ha, hB, e0, e1, e2, e3, e4, e5⟩
    exact ⟨v5, v6, v7, v8, v9, v4, ha, hB, fun h => e0 ((hD 0).2 h), fun h => e1 ((hD 1).2 h), fun h => e2 ((hD 2).2 h), fun h => e3 ((hD 3).2 h), fun h => e4 ((hD 4).2 h), fun h => e5 ((hD 5).2 h)⟩
  case start => exact ⟨undef, undef, undef, undef, undef, (.bool false), by kernel_rfl, (Below.refl _ _).drew, fun h => h.elim, fun h => h.elim, fun h => h.elim, fun h => h.elim, fun h => h.elim, fun h => h.elim⟩
  case step =>
    intro i o ho D a w' hI hn hcl hd
    obtain ⟨v5, v6, v7, v8, v9, v4, ha, hB, e0, e1, e2, e3, e4, e5⟩ := hI
    match i, ho with
    | 0, ho =>
      cases Option.some.inj ho
      have ev : a.tmps[2]?.getD undef = .pointer (some ⟨w.heap.size, 0, none⟩) := by rw [ha]; kernel_rfl
      refine wp_load_row 27 (.tmp 2) rfl w.heap.size (eval_of ev) 27 _ _ _ ((hB.block _ (lt_of_block z0)).trans z0) Tryd.underlying27 rfl size25 ?_
      exact ⟨(.agg #[.bool (cB x), .slice a1 l1 c1]), v6, v7, v8, v9, v4, by rw [ha]; kernel_rfl, hB, fun _ => rfl, fun h => e1 (h.resolve_left (by decide)), fun h => e2 (h.resolve_left (by decide)), fun h => e3 (h.resolve_left (by decide)), fun h => e4 (h.resolve_left (by decide)), fun h => e5 (h.resolve_left (by decide))⟩
    | 1, ho =>
      cases Option.some.inj ho
      have ev : a.tmps[5]?.getD undef = .agg #[.bool (cB x), .slice a1 l1 c1] := by rw [ha, e0 (hd ⟨0, .data⟩ (by simp) rfl)]; kernel_rfl
      refine wp_enter (f := 15) (args := #[.agg #[.bool (cB x), .slice a1 l1 c1]]) (by simp [execOp, ev, go_sem]) ?_
      refine (taken_any (cB x) a1 l1 c1 w').mono ?_
      rintro e w6 ⟨rfl, HB⟩
      refine ⟨_, rfl, ?_⟩
      exact ⟨v5, (.agg #[.bool (cB x), .slice a1 l1 c1]), v7, v8, v9, v4, by rw [ha]; kernel_rfl, below_size hB (Nat.le_refl _) HB, fun h => e0 (h.resolve_left (by decide)), fun _ => rfl, fun h => e2 (h.resolve_left (by decide)), fun h => e3 (h.resolve_left (by decide)), fun h => e4 (h.resolve_left (by decide)), fun h => e5 (h.resolve_left (by decide))⟩
    | 2, ho =>
      cases Option.some.inj ho
      have ev : a.tmps[3]?.getD undef = .pointer (some ⟨w.heap.size + 1, 0, none⟩) := by rw [ha]; kernel_rfl
      refine wp_load_row 27 (.tmp 3) rfl (w.heap.size + 1) (eval_of ev) 27 _ _ _ ((hB.block _ (lt_of_block z1)).trans z1) Tryd.underlying27 rfl size25 ?_
      exact ⟨v5, v6, (.agg #[.bool (cB y), .slice a2 l2 c2]), v8, v9, v4, by rw [ha]; kernel_rfl, hB, fun h => e0 (h.resolve_left (by decide)), fun h => e1 (h.resolve_left (by decide)), fun _ => rfl, fun h => e3 (h.resolve_left (by decide)), fun h => e4 (h.resolve_left (by decide)), fun h => e5 (h.resolve_left (by decide))⟩
    | 3, ho =>
      cases Option.some.inj ho
      have ev : a.tmps[7]?.getD undef = .agg #[.bool (cB y), .slice a2 l2 c2] := by rw [ha, e2 (hd ⟨2, .data⟩ (by simp) rfl)]; kernel_rfl
      refine wp_enter (f := 15) (args := #[.agg #[.bool (cB y), .slice a2 l2 c2]]) (by simp [execOp, ev, go_sem]) ?_
      refine (taken_any (cB y) a2 l2 c2 w').mono ?_
      rintro e w6 ⟨rfl, HB⟩
      refine ⟨_, rfl, ?_⟩
      exact ⟨v5, v6, v7, (.agg #[.bool (cB y), .slice a2 l2 c2]), v9, v4, by rw [ha]; kernel_rfl, below_size hB (Nat.le_refl _) HB, fun h => e0 (h.resolve_left (by decide)), fun h => e1 (h.resolve_left (by decide)), fun h => e2 (h.resolve_left (by decide)), fun _ => rfl, fun h => e4 (h.resolve_left (by decide)), fun h => e5 (h.resolve_left (by decide))⟩
    | 4, ho =>
      cases Option.some.inj ho
      have ev : a.tmps[6]?.getD undef = .agg #[.bool (cB x), .slice a1 l1 c1] := by rw [ha, e1 (hd ⟨1, .data⟩ (by simp) rfl)]; kernel_rfl
      have ev' : a.tmps[8]?.getD undef = .agg #[.bool (cB y), .slice a2 l2 c2] := by rw [ha, e3 (hd ⟨3, .data⟩ (by simp) rfl)]; kernel_rfl
      refine wp_enter (f := 26) (args := #[.agg #[.bool (cB x), .slice a1 l1 c1], .agg #[.bool (cB y), .slice a2 l2 c2]]) (by simp [execOp, ev, ev', go_sem]) ?_
      refine (rsame_any (k1.below hB) (k2.below hB)).mono ?_
      rintro e w6 ⟨rfl, HB⟩
      refine ⟨_, rfl, ?_⟩
      exact ⟨v5, v6, v7, v8, (.bool (decide (x = y))), v4, by rw [ha]; kernel_rfl, below_size hB (Nat.le_refl _) HB, fun h => e0 (h.resolve_left (by decide)), fun h => e1 (h.resolve_left (by decide)), fun h => e2 (h.resolve_left (by decide)), fun h => e3 (h.resolve_left (by decide)), fun _ => rfl, fun h => e5 (h.resolve_left (by decide))⟩
    | 5, ho =>
      cases Option.some.inj ho
      have ev : a.tmps[9]?.getD undef = .bool (decide (x = y)) := by rw [ha, e4 (hd ⟨4, .data⟩ (by simp) rfl)]; kernel_rfl
      refine wp_value (w' := w') (v := .bool (decide (x = y))) (by simp [execOp, ev, go_sem]) ?_
      exact ⟨v5, v6, v7, v8, v9, (.bool (decide (x = y))), by rw [ha]; kernel_rfl, hB, fun h => e0 (h.resolve_left (by decide)), fun h => e1 (h.resolve_left (by decide)), fun h => e2 (h.resolve_left (by decide)), fun h => e3 (h.resolve_left (by decide)), fun h => e4 (h.resolve_left (by decide)), fun _ => rfl⟩
    | i + 6, ho => simp at ho
  case done =>
    rintro D a w' ⟨v5, v6, v7, v8, v9, v4, ha, hB, e0, e1, e2, e3, e4, e5⟩ hall
    obtain rfl := e5 (hall 5 (by decide))
    clear e0 e1 e2 e3 e4 e5 hall
    have hB2 := below_size hb (Nat.le_refl _) hB
    rw [ha]
    clear ha
    simp only [Act.put, List.setIfInBounds_toArray, List.set_cons_zero, List.set_cons_succ]
    go_wp2
    go_ret
    exact ⟨rfl, hB2⟩
end Go.Proofs.YtgammgdckneoiacDoor
