/- Apply: a commit more. -/
import Derived.Test.YtajdelinfkodbaaStp
namespace Go.Proofs.Ytajdelinfkodbaa
open Go.RowKit
set_option maxRecDepth 100000
/-- What the operations yield. -/
def aplV (b b3 b6 mb : Nat) (oo c ch cc : Int) (g : Bool) (va sa ba : Option Addr) (vn vc sn sc bn bc : Nat) (a8 : Option Addr) (n8 c8 : Nat) (j : Nat) : Value :=
  ([.pointer (some ⟨b, 0, none⟩),
    .pointer (some ⟨b, 0, none⟩),
    .pointer (some ⟨b, 2, none⟩),
    .map (some mb),
    .pointer (some ⟨b6, 0, none⟩),
    .int .i64 oo,
    .pointer (some ⟨b, 0, none⟩),
    .pointer (some ⟨b, 0, none⟩),
    .pointer (some ⟨b, 2, none⟩),
    .map (some mb),
    .pointer (some ⟨b6, 0, none⟩),
    .int .i64 oo,
    .agg #[.int .i64 ch, .slice va vn vc],
    .pointer (some ⟨b3, 0, none⟩),
    .int .i64 c,
    .agg #[.int .i64 oo, .bool g, .int .i64 cc, .slice sa sn sc, .slice ba bn bc],
    .agg #[.int .i64 c, .slice a8 n8 c8]] : List Value).getD j undef
theorem aplV_list {l : List Value} (hh : l.length = 17) : ∃ v0 v1 v2 v3 v4 v5 v6 v7 v8 v9 v10 v11 v12 v13 v14 v15 v16, l = [v0, v1, v2, v3, v4, v5, v6, v7, v8, v9, v10, v11, v12, v13, v14, v15, v16] := by
  obtain ⟨v0, t0, rfl, h0⟩ := cons_of hh
  obtain ⟨v1, t1, rfl, h1⟩ := cons_of h0
  obtain ⟨v2, t2, rfl, h2⟩ := cons_of h1
  obtain ⟨v3, t3, rfl, h3⟩ := cons_of h2
  obtain ⟨v4, t4, rfl, h4⟩ := cons_of h3
  obtain ⟨v5, t5, rfl, h5⟩ := cons_of h4
  obtain ⟨v6, t6, rfl, h6⟩ := cons_of h5
  obtain ⟨v7, t7, rfl, h7⟩ := cons_of h6
  obtain ⟨v8, t8, rfl, h8⟩ := cons_of h7
  obtain ⟨v9, t9, rfl, h9⟩ := cons_of h8
  obtain ⟨v10, t10, rfl, h10⟩ := cons_of h9
  obtain ⟨v11, t11, rfl, h11⟩ := cons_of h10
  obtain ⟨v12, t12, rfl, h12⟩ := cons_of h11
  obtain ⟨v13, t13, rfl, h13⟩ := cons_of h12
  obtain ⟨v14, t14, rfl, h14⟩ := cons_of h13
  obtain ⟨v15, t15, rfl, h15⟩ := cons_of h14
  obtain ⟨v16, t16, rfl, h16⟩ := cons_of h15
  obtain rfl := List.eq_nil_of_length_eq_zero h16
  exact ⟨_, _, _, _, _, _, _, _, _, _, _, _, _, _, _, _, _, rfl⟩
def applyE (t : Tab) (c : Int) (xs : List Ch) : Int := if okR c xs = false then 1 else if c ≤ t.last then 5 else 0
def applyT (t : Tab) (c : Int) (xs : List Ch) : Tab := if applyE t c xs = 0 then ⟨t.first, c, applM c xs t.m⟩ else t
theorem OwnC.fr {w w' : World} {S : Nat → Prop} {base : Nat} {v : Value} {xs : List Ch} (h : OwnC w base 51 v xs) (hf : Fr S w w') (hSt : ∀ g cur e, S g → w.heap[g]? = some (.cells cur e (0, 0)) → e = 72 ∨ e = 104) : OwnC w' base 51 v xs := by
  obtain ⟨ss, h1, h2, h3, h4⟩ := h
  have k : ∀ (g : Nat) (cur : Array Value) (e : Nat), e ≠ 72 → e ≠ 104 → w.heap[g]? = some (Obj.cells cur e (0, 0)) → w'.heap[g]? = w.heap[g]? := fun g cur e n1 n2 hh => hf.block g (lt_of_block hh) (fun hS => by
    rcases hSt g cur e hS hh with q | q
    · exact n1 q
    · exact n2 q)
  refine ⟨ss, own_same h1 (fun g hg => ?_), h2, fun s hs => (h3 s hs).same (fun g cur e he hh => k g cur e (by rcases he with rfl | rfl <;> decide) (by rcases he with rfl | rfl <;> decide) hh), h4⟩
  obtain ⟨_, cur, hh⟩ := own_block h1 hg
  exact k g cur 51 (by decide) (by decide) hh
theorem cell_eq' {w w' : World} {b : Nat} (h : w'.heap[b]? = w.heap[b]?) (k : Nat) : w'.cell? ⟨b, k, none⟩ = w.cell? ⟨b, k, none⟩ := by
  unfold World.cell?
  rw [show w'.heap[(⟨b, k, none⟩ : Addr).block]? = w.heap[(⟨b, k, none⟩ : Addr).block]? from h]
theorem apl_keep {wq wp w6 : World} {S R : Nat → Prop} {sv nv : Value} {xs ys : List Ch} {q e : Nat} {cur : Array Value} (hb : Below wq.heap.size wq wp) (FN : WFin wp S R sv nv ys w6) (hr : RowT wq S R sv xs) (E : wq.heap[q]? = some (.cells cur e (0, 0))) (he : e ≠ 104) : w6.heap[q]? = wq.heap[q]? := by
  have hl := lt_of_block E
  have h1 := hb.block q hl
  refine (FN.2.1.block q (Nat.lt_of_lt_of_le hl hb.size) (fun hc => ?_)).trans h1
  obtain ⟨_, _, cu, hh⟩ := hr.block hc.2
  rw [E] at hh
  cases hh
  exact he rfl
theorem TbM.map6 {w wp w6 : World} {S R : Nat → Prop} {mb : Nat} {F : Int → Option Value} {m : Int → Past} {oo : Int} {va : Option Addr} {vn vc : Nat} {nv : Value} {ys : List Ch} (h : TbM w S R mb F m) (hs : Sets w S R) (hb : Below w.heap.size w wp)
    (hF : (F oo).getD (.agg #[.int .i64 0, .slice none 0 0]) = .agg #[.int .i64 (m oo).chg, .slice va vn vc]) (hfin : WFin wp S R (.slice va vn vc) nv ys w6) : IsMap w6 mb F := by
  have hl := hs.sl mb h.own
  refine h.map.same ((hfin.2.1.block mb (Nat.lt_of_lt_of_le hl hb.size) (fun hc => ?_)).trans (hb.block mb hl))
  cases hk : F oo with
  | none =>
    rw [hk] at hF
    have := (agg2 hF).2
    rw [← this] at hc
    simp [Value.ownBlock] at hc
  | some v =>
    rw [hk] at hF
    obtain ⟨sv, e0, hr⟩ := h.yes oo v hk
    have e1 : sv = .slice va vn vc := (agg2 (e0.symm.trans hF)).2
    subst e1
    obtain ⟨_, _, cu, hcu⟩ := hr.block hc.2
    exact h.map.noCells hcu rfl
theorem apl_look {w w' : World} {S R : Nat → Prop} {mb : Nat} {F : Int → Option Value} {m : Int → Past} (h : TbM w S R mb F m) (hs : Sets w S R) (hb : Below w.heap.size w w') (k : Int) : (Instr.lookup 70 (.map (some mb)) (.int .i64 k) false).run Try.prog w' = .ok ((F k).getD (.agg #[.int .i64 0, .slice none 0 0])) w' :=
  (h.map.same (hb.block mb (hs.sl mb h.own))).lookup (P := Try.prog) (t := 70) Try.underlying70 Try.underlying2 (Try.zeroValue78 w') k
theorem okCh_len {g : Bool} {c : Int} {vs : List (Int × Int)} {bs : List Int} (h : okCh g c vs bs = true) : vs.length ≤ 256 ∧ bs.length ≤ 1024 := by
  unfold okCh at h
  split at h
  · unfold alike at h
    simp at h
    rw [h.1.2, h.2]
    simp
  · unfold okO at h
    simp at h
    omega
/-- On the way: a map of pasts, the table's first fields as they were. -/
structure Mid (w : World) (S R : Nat → Prop) (b mb : Nat) (f l : Int) (wx : World) (m : Int → Past) : Prop where
  m : ∃ F S' R', TbM wx S' R' mb F m ∧ Sets wx S' R' ∧ S' b ∧ Grow S S' w wx ∧ Grow R R' w wx
  blk : wx.heap[b]? = some (tabB f l (some mb))
  fr : Fr S w wx
theorem tab_set2 {w : World} {b : Nat} {f l : Int} {mv : Option Nat} (h : w.heap[b]? = some (tabB f l mv)) (mv' : Option Nat) : (w.setCell ⟨b, 2, none⟩ (.map mv')).heap[b]? = some (tabB f l mv') := by
  unfold tabB at h ⊢
  rw [heap_setCell_same w b 2 _ _ _ h]
  simp
theorem tab_set1 {w : World} {b : Nat} {f l : Int} {mv : Option Nat} (h : w.heap[b]? = some (tabB f l mv)) (l' : Int) : (w.setCell ⟨b, 1, none⟩ (.int .i64 l')).heap[b]? = some (tabB f l' mv) := by
  unfold tabB at h ⊢
  rw [heap_setCell_same w b 1 _ _ _ h]
  simp
theorem tab_set0 {w : World} {b : Nat} {f l : Int} {mv : Option Nat} (h : w.heap[b]? = some (tabB f l mv)) (f' : Int) : (w.setCell ⟨b, 0, none⟩ (.int .i64 f')).heap[b]? = some (tabB f' l mv) := by
  unfold tabB at h ⊢
  rw [heap_setCell_same w b 0 _ _ _ h]
  simp
theorem Grow.up {S S' : Nat → Prop} {w w1 w2 : World} (h : Grow S S' w w1) (hsz : w1.heap.size ≤ w2.heap.size) : Grow S S' w w2 := ⟨h.old, fun g hg => by
  rcases h.new g hg with q | ⟨q, q'⟩
  · exact .inl q
  · exact .inr ⟨q, by omega⟩⟩
theorem Mid.step {w wr wq w6 w' : World} {S R S' R' S2 R2 : Nat → Prop} {b mb : Nat} {f l : Int} {F : Int → Option Value} {m : Int → Past} (gS : Grow S S' w wr) (gR : Grow R R' w wr) (hfr : Fr S w wr) (B6 : Below wr.heap.size wr wq) (hSb : S' b) (hblk : wq.heap[b]? = some (tabB f l (some mb)))
    (t1 : TbM w' S2 R2 mb F m) (t2 : Sets w' S2 R2) (t3 : Grow S' S2 wq w') (t4 : Grow R' R2 wq w') (t5 : Fr S' wq w') (k6 : w6.heap[b]? = wq.heap[b]?) (g7 : w6.grownBy w' (some mb)) (hbm : b ≠ mb) : Mid w S R b mb f l w' m := by
  have s1 := hfr.size
  have s2 := B6.size
  have s3 := t5.size
  refine ⟨⟨F, S2, R2, t1, t2, t3.old _ hSb, (gS.up s2).trans t3 (by omega) s3, (gR.up s2).trans t4 (by omega) s3⟩, ?_, ?_⟩
  · have h1 := k6.trans hblk
    exact (g7.block b (lt_of_block h1) (fun e => hbm (Option.some.inj e))).trans h1
  · refine hfr.trans ((Fr.of_below (S := S') B6).trans t5 (fun _ _ h => h)) (fun q hq hS => ?_)
    rcases gS.new q hS with h | ⟨h, _⟩
    · exact h
    · omega
/-- The last commit is another one. -/
theorem Mid.done {w wx : World} {S R : Nat → Prop} {b mb : Nat} {f l c : Int} {m : Int → Past} (h : Mid w S R b mb f l wx m) (hg : GoodM m c) (hf : 0 ≤ f ∧ f ≤ c ∧ c ≤ 1099511627776) (hSb : S b) : ∃ S' R', Tb (wx.setCell ⟨b, 1, none⟩ (.int .i64 c)) S' R' b ⟨f, c, m⟩ ∧ Grow S S' w (wx.setCell ⟨b, 1, none⟩ (.int .i64 c)) ∧ Grow R R' w (wx.setCell ⟨b, 1, none⟩ (.int .i64 c)) ∧ Fr S w (wx.setCell ⟨b, 1, none⟩ (.int .i64 c)) := by
  obtain ⟨⟨F, S', R', h1, h2, h3, h4, h5⟩, hb, hfr⟩ := h
  have oth : ∀ q, q ≠ b → (wx.setCell ⟨b, 1, none⟩ (.int .i64 c)).heap[q]? = wx.heap[q]? := fun q hq => heap_setCell_other wx ⟨b, 1, none⟩ q _ hq
  have sz : (wx.setCell ⟨b, 1, none⟩ (.int .i64 c)).heap.size = wx.heap.size := by simp
  have hb' := tab_set1 hb c
  have nrow : ∀ q cur e, wx.heap[q]? = some (.cells cur e (0, 0)) → e ≠ 72 → q ≠ b := fun q cur e hh he hq => by
    subst hq
    rw [hb] at hh
    unfold tabB at hh
    cases hh
    exact he rfl
  refine ⟨S', R', ⟨⟨some mb, hb', F, h1.map.same (oth mb (fun e => by subst e; exact h1.map.noCells hb rfl)), h1.own, h1.dom, h1.no, fun k v hv => ?_, h1.apart⟩, h3, ⟨fun g hg => by rw [sz]; exact h2.sl g hg, fun g hg => by rw [sz]; exact h2.rl g hg, h2.dis, fun g cur e hS hh => ?_⟩, hg, hf⟩, h4.up (by omega), h5.up (by omega), ⟨hfr.os, hfr.tape, hfr.output, by rw [sz]; exact hfr.size, fun q hq hn => (oth q (fun e => hn (e ▸ hSb))).trans (hfr.block q hq hn)⟩⟩
  · obtain ⟨sv, e, hr⟩ := h1.yes k v hv
    refine ⟨sv, e, hr.same (fun _ h => h) (fun _ _ h => h) (fun _ h => h) (fun g _ hg' => oth g (fun e => h2.dis g hg' (e ▸ h3))) (fun g hg' => ?_)⟩
    obtain ⟨_, _, cur, hh⟩ := hr.block hg'
    exact oth g (nrow g cur 104 hh (by decide))
  · by_cases e' : g = b
    · subst e'
      rw [hb'] at hh
      unfold tabB at hh
      cases hh
      exact .inl rfl
    · rw [oth g e'] at hh
      exact h2.ty g cur e hS hh
/-- A map that is new. -/
theorem Mid.made {w : World} {S R : Nat → Prop} {b : Nat} {f l : Int} {m : Int → Past} (h : w.heap[b]? = some (tabB f l none)) (hs : Sets w S R) (hb : S b) (hm : ∀ k, m k = ⟨0, []⟩) : Mid w S R b w.heap.size f l ((w.alloc (.map #[] 0)).setCell ⟨b, 2, none⟩ (.map (some w.heap.size))) m := by
  have hbl := lt_of_block h
  have h1 : (w.alloc (.map #[] 0)).heap[b]? = some (tabB f l none) := (Below.heap_alloc w _ b hbl).trans h
  have oth : ∀ q, q ≠ b → ((w.alloc (.map #[] 0)).setCell ⟨b, 2, none⟩ (.map (some w.heap.size))).heap[q]? = (w.alloc (.map #[] 0)).heap[q]? := fun q hq => heap_setCell_other _ ⟨b, 2, none⟩ q _ hq
  have sz : ((w.alloc (.map #[] 0)).setCell ⟨b, 2, none⟩ (.map (some w.heap.size))).heap.size = w.heap.size + 1 := by simp
  have new : ((w.alloc (.map #[] 0)).setCell ⟨b, 2, none⟩ (.map (some w.heap.size))).heap[w.heap.size]? = some (.map #[] 0) := (oth _ (by omega)).trans (World.alloc_heap_new w _)
  refine ⟨⟨fun _ => none, fun g => S g ∨ g = w.heap.size, R, ⟨(IsMap.made w).same (oth _ (by omega)), .inr rfl, fun k hk => absurd rfl hk, fun k _ => hm k, fun k v hv => (by cases hv), fun k k' c c' sv sv' g h1 => (by cases h1)⟩, ⟨fun g hg => ?_, fun g hg => ?_, fun g hg hS => ?_, fun g cur e hg hh => ?_⟩, .inl hb, ⟨fun _ h => .inl h, fun g hg => ?_⟩, ⟨fun _ h => h, fun g hg => .inl hg⟩⟩, tab_set2 h1 _, ?_⟩
  · rw [sz]
    rcases hg with hg | hg
    · have := hs.sl g hg; omega
    · omega
  · rw [sz]; have := hs.rl g hg; omega
  · rcases hS with hS | hS
    · exact hs.dis g hg hS
    · have := hs.rl g hg; omega
  · rcases hg with hg | hg
    · by_cases e' : g = b
      · subst e'
        rw [tab_set2 h1] at hh
        unfold tabB at hh
        cases hh
        exact .inl rfl
      · rw [oth g e', Below.heap_alloc w _ g (hs.sl g hg)] at hh
        exact hs.ty g cur e hg hh
    · subst hg
      rw [new] at hh
      cases hh
  · rcases hg with hg | hg
    · exact .inl hg
    · exact .inr (by omega)
  · exact ⟨rfl, rfl, rfl, by omega, fun g hg hn => (oth g (fun e => hn (e ▸ hb))).trans (Below.heap_alloc w _ g hg)⟩
set_option maxHeartbeats 8000000 in
theorem apply_any {w : World} {S R : Nat → Prop} {b : Nat} {t : Tab} (h : Tb w S R b t) (c : Int) {ra : Option Addr} {n cap base : Nat} {xs : List Ch} (hr : OwnC w base 51 (.slice ra n cap) xs) :
    Calls Try.prog 11 #[.pointer (some ⟨b, 0, none⟩), .agg #[.int .i64 c, .slice ra n cap]] w fun e w' => e = .returned (.int .i64 (applyE t c xs)) ∧ ∃ S' R', Tb w' S' R' b (applyT t c xs) ∧ Grow S S' w w' ∧ Grow R R' w w' ∧ Fr S w w' := by
  have hem := fun (r : Option Nat) (w : World) => run_eql_map_nil (P := Try.prog) w 70 2 78 r Try.underlying70
  have hmm := @run_makeMap Try.prog
  have E3 : (w.alloc (recB c (.slice ra n cap) 38)).heap[w.heap.size]? = some (recB c (.slice ra n cap) 38) := new1 _ _
  have B3 : Below w.heap.size w (w.alloc (recB c (.slice ra n cap) 38)) := box_below
  have h1 := h.below B3
  have r1 := hr.below B3
  have cR := rightRecord_any c r1.isC
  go_enter Try.func11, Try.ntmps11
  unfold recB at E3 B3 h1 r1 cR
  go_upto_region 3 with fail
  generalize w.alloc (.cells #[.int .i64 c, .slice ra n cap] 38) = w1 at *
  obtain ⟨b3, hb3⟩ : ∃ q, q = w.heap.size := ⟨_, rfl⟩
  rw [← hb3] at E3 ⊢
  replace hb3 : w.heap.size ≤ b3 := Nat.le_of_eq hb3.symm
  replace E3 : w1.heap[b3]? = some (recB c (.slice ra n cap) 38) := E3
  obtain ⟨x0, x1⟩ := rec_cells E3
  go_wp2_with fail
  refine cR.mono ?_
  rintro e w2 ⟨rfl, B2⟩
  have h2 := h1.below B2
  have r2 := r1.below B2
  have F3 := (B2.block b3 (lt_of_block E3)).trans E3
  have BB := below_size B3 B3.size B2
  clear cR h1 r1 E3 x0 x1 B2 B3
  obtain ⟨x0, x1⟩ := rec_cells F3
  cases hok : okR c xs with
  | false =>
    go_wp2
    go_ret
    have e1 : applyE t c xs = 1 := by simp [applyE, hok]
    have e2 : applyT t c xs = t := by simp [applyT, e1]
    exact ⟨by rw [e1]; rfl, S, R, by rw [e2]; exact h2, ⟨fun _ h => h, fun _ h => .inl h⟩, ⟨fun _ h => h, fun _ h => .inl h⟩, Fr.of_below BB⟩
  | true =>
    obtain ⟨mv, hblk, hV⟩ := h2.blk
    obtain ⟨y0, y1, y2⟩ := tab_cells hblk
    by_cases hle : c ≤ t.last
    · go_wp2_with fail
      go_quiet (fail)
      go_wp2
      go_ret
      have e1 : applyE t c xs = 5 := by simp [applyE, hok, hle]
      have e2 : applyT t c xs = t := by simp [applyT, e1]
      exact ⟨by rw [e1]; rfl, S, R, by rw [e2]; exact h2.same (Nat.le_refl _) (fun _ _ => rfl), ⟨fun _ h => h, fun _ h => .inl h⟩, ⟨fun _ h => h, fun _ h => .inl h⟩, Fr.of_below (below_drewN' BB _)⟩
    · go_wp2_with fail
      go_quiet (fail)
      have h3 : Tb (w2.drewN nq) S R b t := h2.same (Nat.le_refl _) (fun _ _ => rfl)
      have r3 : OwnC (w2.drewN nq) base 51 (.slice ra n cap) xs := r2.below ⟨rfl, rfl, rfl, Nat.le_refl _, fun _ _ => rfl⟩
      have G3 : (w2.drewN nq).heap[b3]? = some (recB c (.slice ra n cap) 38) := F3
      have B3 := below_drewN' BB nq
      have hblk3 : (w2.drewN nq).heap[b]? = some (tabB t.first t.last mv) := hblk
      have hV3 : TbV (w2.drewN nq) S R mv t.m := hV.same h2.sets (fun _ h => h) (fun _ _ h => h) (fun _ h => h) (fun _ _ => rfl)
      have hdec : decide (c ≤ t.last) = false := decide_eq_false (by omega)
      rw [hdec]
      clear h2 r2 F3 BB hblk hV x0 x1 y0 y1 y2 hdec
      generalize w2.drewN nq = w3 at *
      obtain ⟨x0, x1⟩ := rec_cells G3
      obtain ⟨y0, y1, y2⟩ := tab_cells hblk3
      have yf := tab_frozen hblk3
      have hbl : Hid (b < w3.heap.size) := lt_of_block hblk3
      have g1 : (w3.alloc (.map #[] 0)).cell? ⟨b, 2, none⟩ = some (.map mv) := ((box_below (o := .map #[] 0)).cell (p := ⟨b, 2, none⟩) hbl.out).trans y2
      have gf : (w3.alloc (.map #[] 0)).frozen? ⟨b, 2, none⟩ = false := tab_frozen ((Below.heap_alloc w3 _ b hbl.out).trans hblk3) 2
      go_upto_if 23 with fail
      go_cut [] from 23 to 27 (fun wx => ∃ mb, Mid w3 S R b mb t.first t.last wx (applM c (xs.take 0) t.m))
      case first =>
        cases mv with
        | none =>
          go_wp2
          go_meet
          exact ⟨_, Mid.made hblk3 h3.sets h3.own hV3⟩
        | some mb =>
          go_wp2
          go_meet
          obtain ⟨F, hF⟩ := hV3
          exact ⟨mb, ⟨F, S, R, hF, h3.sets, h3.own, Grow.refl _ _, Grow.refl _ _⟩, hblk3, Fr.refl _ _⟩
      case rest =>
      obtain ⟨mb, M0⟩ := hcut
      clear y0 y1 y2 yf g1 gf hem hmm hV3 hblk3
      have hn : n ≤ 9223372036854775807 := by have h1 := r3.isC.most; have h2 := r3.isC.room; unfold maxLen at h1; omega
      have hnb3 : ¬ S b3 := fun hS => by have := h.sets.sl b3 hS; omega
      have Gc := (M0.fr.block b3 (lt_of_block G3) hnb3).trans G3
      obtain ⟨z0, z1⟩ := rec_cells Gc
      go_wp2
      go_loopw [31] (fun iv wr => ∃ k : Nat, k ≤ n ∧ iv = .int .i64 (k : Int) ∧ Mid w3 S R b mb t.first t.last wr (applM c (xs.take k) t.m)) (fun iv _ => n - (intOf iv).toNat)
      case atStart => exact ⟨0, by omega, rfl, M0⟩
      case round =>
        obtain ⟨k, hk, rfl, M⟩ := hrel
        obtain ⟨⟨F, S', R', hM, hs, hSb, gS, gR⟩, hblk, hfr⟩ := M
        have Gr := (hfr.block b3 (lt_of_block G3) hnb3).trans G3
        by_cases hlt : k < n
        · have hki : (k : Int) < (n : Int) := by omega
          have rr := r3.fr hfr h3.sets.ty
          obtain ⟨cb, off, x, rfl, hbl0, hx, hcx, hox⟩ := rr.isC.at_ k hlt
          obtain ⟨oo, g, cc, vs, bs⟩ := x
          obtain ⟨sa, sn, sc, ba, bn, bc, c0, c1, c2, c3, c4, io⟩ := hcx
          simp only at c0 c1 c2 io hox
          have hok' : okL 0 xs = true := by unfold okR at hok; simp at hok; exact hok.2
          have hc1 : 1 ≤ c ∧ c ≤ 1099511627776 := by unfold okR at hok; simp at hok; exact hok.1.1
          have hc64 : -9223372036854775808 ≤ c ∧ c ≤ 9223372036854775807 := by omega
          have hat := okL_at xs 0 k _ hok' hx.out
          simp only at hat
          have hln := okCh_len hat.2.2
          have ho : Hid (1 ≤ oo ∧ oo ≤ 4096) := ⟨by omega, by omega⟩
          have hsn : sn ≤ 8796093022208 := by have := io.v.size; omega
          have hbn : bn ≤ 140737488355328 := by have := io.b.size; omega
          have gk := GoodM.applK h3.good (by have := h3.first0; omega) hle hok' k
          have hxl := gk.len hc1.2 oo
          obtain ⟨mk, hmk⟩ : ∃ mk, Hid (applM c (xs.take k) t.m = mk) := ⟨_, rfl⟩
          rw [hmk.out] at hM hxl
          obtain ⟨va, vn, vc, hget, hrow, _⟩ := hM.get oo
          replace hget : Hid ((F oo).getD (.agg #[.int .i64 0, .slice none 0 0]) = .agg #[.int .i64 (mk oo).chg, .slice va vn vc]) := hget
          have E6 := new1 wr (chB oo g cc (.slice sa sn sc) (.slice ba bn bc))
          have B6 : Below wr.heap.size wr (wr.alloc (chB oo g cc (.slice sa sn sc) (.slice ba bn bc))) := box_below
          unfold chB at E6 B6
          have l6 : wr.heap.size ≤ wr.heap.size := Nat.le_refl _
          clear hat hln gk hok' hc1 hlt M0 z0 z1 Gc x0 x1 hr r3 G3
          go_upto_region 12 with fail
          generalize wr.alloc (.cells #[.int .i64 oo, .bool g, .int .i64 cc, .slice sa sn sc, .slice ba bn bc] 51) = wq at *
          obtain ⟨b6, hb6⟩ : ∃ q, q = wr.heap.size := ⟨_, rfl⟩
          rw [← hb6] at E6 ⊢
          replace hb6 : wr.heap.size ≤ b6 := Nat.le_of_eq hb6.symm
          replace E6 : wq.heap[b6]? = some (chB oo g cc (.slice sa sn sc) (.slice ba bn bc)) := E6
          obtain ⟨z0, z1, z2, z3, z4⟩ := chB_cells E6
          have hblkq := (B6.block b (lt_of_block hblk)).trans hblk
          obtain ⟨y0, y1, y2⟩ := tab_cells hblkq
          obtain ⟨x0, x1⟩ := rec_cells ((B6.block b3 (lt_of_block Gr)).trans Gr)
          replace hM := hM.same hs (fun _ h => h) (fun _ _ h => h) (fun _ h => h) (fun q hq => B6.block q (hs.lt hq)) (w' := wq)
          replace hrow := hrow.same (fun _ h => h) (fun _ _ h => h) (fun _ h => h) (fun q hq _ => B6.block q hq) (fun q hq => B6.block q (hrow.block hq).2.1) (w' := wq)
          replace io := io.below B6
          replace hs := hs.same B6.size (fun q hq => B6.block q (hs.lt hq)) (w' := wq)
          obtain ⟨ch, hch⟩ : ∃ ch, (mk oo).chg = ch := ⟨_, rfl⟩
          replace hch : Hid ((mk oo).chg = ch) := hch
          rw [hch.out] at hget
          clear c0 c1 c2 c3 c4
          refine abstract_act fun A hA => ?_
          have hsz : A.tmps.size = 58 := by rw [hA]; rfl
          have s0 : A.tmps[0]? = some (.pointer (some ⟨b, 0, none⟩)) := by rw [hA]; rfl
          have s3 : A.tmps[3]? = some (.pointer (some ⟨b3, 0, none⟩)) := by rw [hA]; rfl
          have s6 : A.tmps[6]? = some (.pointer (some ⟨b6, 0, none⟩)) := by rw [hA]; rfl
          refine wp_region_inv' (fun A D a w' => ∃ (l : List Value) (a8 : Option Addr) (n8 : Nat) (c8 : Nat), a = putAll A 35 l ∧ l.length = 17 ∧ (∀ j, j < 17 → D j → l[j]? = some (aplV b b3 b6 mb oo c ch cc g va sa ba vn vc sn sc bn bc a8 n8 c8 j)) ∧ (D 16 ∨ Below wq.heap.size wq w') ∧ (D 17 ∨ (w'.heap[b]? = wq.heap[b]? ∧ w'.heap[b6]? = wq.heap[b6]?)) ∧ (D 17 → ∃ wp w6 : World, Below wq.heap.size wq wp ∧ WFin wp S' R' (.slice va vn vc) (.slice a8 n8 c8) (withL c ⟨oo, g, cc, vs, bs⟩ (mk oo).vs) w6 ∧ IsMap w' mb (fun i => if i = oo then some (.agg #[.int .i64 c, .slice a8 n8 c8]) else F i) ∧ w6.grownBy w' (some mb)) ∧ (D 16 → ¬ D 17 → ∃ wp : World, Below wq.heap.size wq wp ∧ WFin wp S' R' (.slice va vn vc) (.slice a8 n8 c8) (withL c ⟨oo, g, cc, vs, bs⟩ (mk oo).vs) w')) (by kernel_rfl) (by kernel_rfl) ?mono ?start ?step ?done
          case mono =>
            rintro D D' a w' hD ⟨l, a8, n8, c8, ha, hlen, hl, hB, hC, hQ, hWi⟩
            exact ⟨l, a8, n8, c8, ha, hlen, fun j hj h => hl j hj ((hD j).2 h), hB.imp_left (hD 16).1, hC.imp_left (hD 17).1, fun h => hQ ((hD 17).2 h), fun h h' => hWi ((hD 16).2 h) (fun k => h' ((hD 17).1 k))⟩
          case start => exact ⟨_, none, 0, 0, (putAll_start A 35 17 (by omega)).1, (putAll_start A 35 17 (by omega)).2, fun _ _ h => h.elim, .inr ((Below.refl _ _).drew), .inr (⟨rfl, rfl⟩), fun h => h.elim, fun h _ => h.elim⟩
          case step =>
            clear hA
            intro i o ho D a w' hI hn hcl hd
            obtain ⟨l, a8, n8, c8, ha, hlen, hl, hB, hC, hQ, hWi⟩ := hI
            match i, ho with
            | 0, ho =>
              cases Option.some.inj ho
              have ev : a.tmps[0]? = some (.pointer (some ⟨b, 0, none⟩)) := by rw [ha, putAll_low A 35 0 l (by omega) (by decide)]; exact s0
              refine wp_value (w' := w') (v := .pointer (some ⟨b, 0, none⟩)) (by simp [execOp, ev, go_sem]) ?_
              exact ⟨_, a8, n8, c8, by rw [ha]; exact putAll_put A 35 0 l _ (by omega) (by omega), by rw [List.length_set]; exact hlen, set_known hlen (by decide) hl, hB.imp_left .inr, hC.imp_left .inr, fun h => hQ (h.resolve_left (by decide)), fun h h' => hWi (h.resolve_left (by decide)) (fun k => h' (.inr k))⟩
            | 1, ho =>
              cases Option.some.inj ho
              have ev : a.tmps[35]? = some (.pointer (some ⟨b, 0, none⟩)) := known_at ha hsz hlen hl 0 (by decide) (hd ⟨0, .data⟩ (by simp) rfl)
              refine wp_value (w' := w') (v := .pointer (some ⟨b, 0, none⟩)) (by simp [execOp, ev, go_sem]) ?_
              exact ⟨_, a8, n8, c8, by rw [ha]; exact putAll_put A 35 1 l _ (by omega) (by omega), by rw [List.length_set]; exact hlen, set_known hlen (by decide) hl, hB.imp_left .inr, hC.imp_left .inr, fun h => hQ (h.resolve_left (by decide)), fun h h' => hWi (h.resolve_left (by decide)) (fun k => h' (.inr k))⟩
            | 2, ho =>
              cases Option.some.inj ho
              have ev : a.tmps[36]? = some (.pointer (some ⟨b, 0, none⟩)) := known_at ha hsz hlen hl 1 (by decide) (hd ⟨1, .data⟩ (by simp) rfl)
              refine wp_value (w' := w') (v := .pointer (some ⟨b, 2, none⟩)) (by simp [execOp, ev, go_sem]) ?_
              exact ⟨_, a8, n8, c8, by rw [ha]; exact putAll_put A 35 2 l _ (by omega) (by omega), by rw [List.length_set]; exact hlen, set_known hlen (by decide) hl, hB.imp_left .inr, hC.imp_left .inr, fun h => hQ (h.resolve_left (by decide)), fun h h' => hWi (h.resolve_left (by decide)) (fun k => h' (.inr k))⟩
            | 3, ho =>
              cases Option.some.inj ho
              have ev : a.tmps[37]? = some (.pointer (some ⟨b, 2, none⟩)) := known_at ha hsz hlen hl 2 (by decide) (hd ⟨2, .data⟩ (by simp) rfl)
              have hc := (cell_eq' (hC.resolve_left (fun h => hn (hcl 17 _ rfl h ⟨3, .data⟩ (by simp) rfl))).1 2).trans y2
              refine wp_value (w' := w') (v := .map (some mb)) (by simp [execOp, ev, go_sem, hc]) ?_
              exact ⟨_, a8, n8, c8, by rw [ha]; exact putAll_put A 35 3 l _ (by omega) (by omega), by rw [List.length_set]; exact hlen, set_known hlen (by decide) hl, hB.imp_left .inr, hC.imp_left .inr, fun h => hQ (h.resolve_left (by decide)), fun h h' => hWi (h.resolve_left (by decide)) (fun k => h' (.inr k))⟩
            | 4, ho =>
              cases Option.some.inj ho
              have ev : a.tmps[6]? = some (.pointer (some ⟨b6, 0, none⟩)) := by rw [ha, putAll_low A 35 6 l (by omega) (by decide)]; exact s6
              refine wp_value (w' := w') (v := .pointer (some ⟨b6, 0, none⟩)) (by simp [execOp, ev, go_sem]) ?_
              exact ⟨_, a8, n8, c8, by rw [ha]; exact putAll_put A 35 4 l _ (by omega) (by omega), by rw [List.length_set]; exact hlen, set_known hlen (by decide) hl, hB.imp_left .inr, hC.imp_left .inr, fun h => hQ (h.resolve_left (by decide)), fun h h' => hWi (h.resolve_left (by decide)) (fun k => h' (.inr k))⟩
            | 5, ho =>
              cases Option.some.inj ho
              have ev : a.tmps[39]? = some (.pointer (some ⟨b6, 0, none⟩)) := known_at ha hsz hlen hl 4 (by decide) (hd ⟨4, .data⟩ (by simp) rfl)
              have hc := (cell_eq' (hC.resolve_left (fun h => hn (hcl 17 _ rfl h ⟨5, .data⟩ (by simp) rfl))).2 0).trans z0
              refine wp_value (w' := w') (v := .int .i64 oo) (by simp [execOp, ev, go_sem, hc]) ?_
              exact ⟨_, a8, n8, c8, by rw [ha]; exact putAll_put A 35 5 l _ (by omega) (by omega), by rw [List.length_set]; exact hlen, set_known hlen (by decide) hl, hB.imp_left .inr, hC.imp_left .inr, fun h => hQ (h.resolve_left (by decide)), fun h h' => hWi (h.resolve_left (by decide)) (fun k => h' (.inr k))⟩
            | 6, ho =>
              cases Option.some.inj ho
              have ev : a.tmps[0]? = some (.pointer (some ⟨b, 0, none⟩)) := by rw [ha, putAll_low A 35 0 l (by omega) (by decide)]; exact s0
              refine wp_value (w' := w') (v := .pointer (some ⟨b, 0, none⟩)) (by simp [execOp, ev, go_sem]) ?_
              exact ⟨_, a8, n8, c8, by rw [ha]; exact putAll_put A 35 6 l _ (by omega) (by omega), by rw [List.length_set]; exact hlen, set_known hlen (by decide) hl, hB.imp_left .inr, hC.imp_left .inr, fun h => hQ (h.resolve_left (by decide)), fun h h' => hWi (h.resolve_left (by decide)) (fun k => h' (.inr k))⟩
            | 7, ho =>
              cases Option.some.inj ho
              have ev : a.tmps[41]? = some (.pointer (some ⟨b, 0, none⟩)) := known_at ha hsz hlen hl 6 (by decide) (hd ⟨6, .data⟩ (by simp) rfl)
              refine wp_value (w' := w') (v := .pointer (some ⟨b, 0, none⟩)) (by simp [execOp, ev, go_sem]) ?_
              exact ⟨_, a8, n8, c8, by rw [ha]; exact putAll_put A 35 7 l _ (by omega) (by omega), by rw [List.length_set]; exact hlen, set_known hlen (by decide) hl, hB.imp_left .inr, hC.imp_left .inr, fun h => hQ (h.resolve_left (by decide)), fun h h' => hWi (h.resolve_left (by decide)) (fun k => h' (.inr k))⟩
            | 8, ho =>
              cases Option.some.inj ho
              have ev : a.tmps[42]? = some (.pointer (some ⟨b, 0, none⟩)) := known_at ha hsz hlen hl 7 (by decide) (hd ⟨7, .data⟩ (by simp) rfl)
              refine wp_value (w' := w') (v := .pointer (some ⟨b, 2, none⟩)) (by simp [execOp, ev, go_sem]) ?_
              exact ⟨_, a8, n8, c8, by rw [ha]; exact putAll_put A 35 8 l _ (by omega) (by omega), by rw [List.length_set]; exact hlen, set_known hlen (by decide) hl, hB.imp_left .inr, hC.imp_left .inr, fun h => hQ (h.resolve_left (by decide)), fun h h' => hWi (h.resolve_left (by decide)) (fun k => h' (.inr k))⟩
            | 9, ho =>
              cases Option.some.inj ho
              have ev : a.tmps[43]? = some (.pointer (some ⟨b, 2, none⟩)) := known_at ha hsz hlen hl 8 (by decide) (hd ⟨8, .data⟩ (by simp) rfl)
              have hc := ((hB.resolve_left (fun h => (fun h => hn (hcl 12 _ rfl h ⟨9, .data⟩ (by simp) rfl)) (hcl 16 _ rfl h ⟨12, .data⟩ (by simp) rfl))).cell (p := ⟨b, 2, none⟩) (lt_of_cell y2)).trans y2
              refine wp_value (w' := w') (v := .map (some mb)) (by simp [execOp, ev, go_sem, hc]) ?_
              exact ⟨_, a8, n8, c8, by rw [ha]; exact putAll_put A 35 9 l _ (by omega) (by omega), by rw [List.length_set]; exact hlen, set_known hlen (by decide) hl, hB.imp_left .inr, hC.imp_left .inr, fun h => hQ (h.resolve_left (by decide)), fun h h' => hWi (h.resolve_left (by decide)) (fun k => h' (.inr k))⟩
            | 10, ho =>
              cases Option.some.inj ho
              have ev : a.tmps[6]? = some (.pointer (some ⟨b6, 0, none⟩)) := by rw [ha, putAll_low A 35 6 l (by omega) (by decide)]; exact s6
              refine wp_value (w' := w') (v := .pointer (some ⟨b6, 0, none⟩)) (by simp [execOp, ev, go_sem]) ?_
              exact ⟨_, a8, n8, c8, by rw [ha]; exact putAll_put A 35 10 l _ (by omega) (by omega), by rw [List.length_set]; exact hlen, set_known hlen (by decide) hl, hB.imp_left .inr, hC.imp_left .inr, fun h => hQ (h.resolve_left (by decide)), fun h h' => hWi (h.resolve_left (by decide)) (fun k => h' (.inr k))⟩
            | 11, ho =>
              cases Option.some.inj ho
              have ev : a.tmps[45]? = some (.pointer (some ⟨b6, 0, none⟩)) := known_at ha hsz hlen hl 10 (by decide) (hd ⟨10, .data⟩ (by simp) rfl)
              have hc := ((hB.resolve_left (fun h => (fun h => hn (hcl 12 _ rfl h ⟨11, .data⟩ (by simp) rfl)) (hcl 16 _ rfl h ⟨12, .data⟩ (by simp) rfl))).cell (p := ⟨b6, 0, none⟩) (lt_of_cell z0)).trans z0
              refine wp_value (w' := w') (v := .int .i64 oo) (by simp [execOp, ev, go_sem, hc]) ?_
              exact ⟨_, a8, n8, c8, by rw [ha]; exact putAll_put A 35 11 l _ (by omega) (by omega), by rw [List.length_set]; exact hlen, set_known hlen (by decide) hl, hB.imp_left .inr, hC.imp_left .inr, fun h => hQ (h.resolve_left (by decide)), fun h h' => hWi (h.resolve_left (by decide)) (fun k => h' (.inr k))⟩
            | 12, ho =>
              cases Option.some.inj ho
              have ev : a.tmps[44]? = some (.map (some mb)) := known_at ha hsz hlen hl 9 (by decide) (hd ⟨9, .data⟩ (by simp) rfl)
              have ev' : a.tmps[46]? = some (.int .i64 oo) := known_at ha hsz hlen hl 11 (by decide) (hd ⟨11, .data⟩ (by simp) rfl)
              have hb := hB.resolve_left (fun h => hn (hcl 16 _ rfl h ⟨12, .data⟩ (by simp) rfl))
              have hlk := apl_look hM hs hb oo
              rw [hget.out] at hlk
              refine wp_value (w' := w') (v := .agg #[.int .i64 ch, .slice va vn vc]) (by simp [execOp, ev, ev', go_sem, hlk]) ?_
              exact ⟨_, a8, n8, c8, by rw [ha]; exact putAll_put A 35 12 l _ (by omega) (by omega), by rw [List.length_set]; exact hlen, set_known hlen (by decide) hl, hB.imp_left .inr, hC.imp_left .inr, fun h => hQ (h.resolve_left (by decide)), fun h h' => hWi (h.resolve_left (by decide)) (fun k => h' (.inr k))⟩
            | 13, ho =>
              cases Option.some.inj ho
              have ev : a.tmps[3]? = some (.pointer (some ⟨b3, 0, none⟩)) := by rw [ha, putAll_low A 35 3 l (by omega) (by decide)]; exact s3
              refine wp_value (w' := w') (v := .pointer (some ⟨b3, 0, none⟩)) (by simp [execOp, ev, go_sem]) ?_
              exact ⟨_, a8, n8, c8, by rw [ha]; exact putAll_put A 35 13 l _ (by omega) (by omega), by rw [List.length_set]; exact hlen, set_known hlen (by decide) hl, hB.imp_left .inr, hC.imp_left .inr, fun h => hQ (h.resolve_left (by decide)), fun h h' => hWi (h.resolve_left (by decide)) (fun k => h' (.inr k))⟩
            | 14, ho =>
              cases Option.some.inj ho
              have ev : a.tmps[48]? = some (.pointer (some ⟨b3, 0, none⟩)) := known_at ha hsz hlen hl 13 (by decide) (hd ⟨13, .data⟩ (by simp) rfl)
              have hc := ((hB.resolve_left (fun h => hn (hcl 16 _ rfl h ⟨14, .data⟩ (by simp) rfl))).cell (p := ⟨b3, 0, none⟩) (lt_of_cell x0)).trans x0
              refine wp_value (w' := w') (v := .int .i64 c) (by simp [execOp, ev, go_sem, hc]) ?_
              exact ⟨_, a8, n8, c8, by rw [ha]; exact putAll_put A 35 14 l _ (by omega) (by omega), by rw [List.length_set]; exact hlen, set_known hlen (by decide) hl, hB.imp_left .inr, hC.imp_left .inr, fun h => hQ (h.resolve_left (by decide)), fun h h' => hWi (h.resolve_left (by decide)) (fun k => h' (.inr k))⟩
            | 15, ho =>
              cases Option.some.inj ho
              have ev : a.tmps[6]? = some (.pointer (some ⟨b6, 0, none⟩)) := by rw [ha, putAll_low A 35 6 l (by omega) (by decide)]; exact s6
              have hb := hB.resolve_left (fun h => hn (hcl 16 _ rfl h ⟨15, .data⟩ (by simp) rfl))
              have q0 := (hb.cell (p := ⟨b6, 0, none⟩) (lt_of_cell z0)).trans z0
              have q1 := (hb.cell (p := ⟨b6, 1, none⟩) (lt_of_cell z1)).trans z1
              have q2 := (hb.cell (p := ⟨b6, 2, none⟩) (lt_of_cell z2)).trans z2
              have q3 := (hb.cell (p := ⟨b6, 3, none⟩) (lt_of_cell z3)).trans z3
              have q4 := (hb.cell (p := ⟨b6, 4, none⟩) (lt_of_cell z4)).trans z4
              refine wp_value (w' := w') (v := .agg #[.int .i64 oo, .bool g, .int .i64 cc, .slice sa sn sc, .slice ba bn bc]) (by simp [execOp, ev, go_sem, q0, q1, q2, q3, q4]) ?_
              exact ⟨_, a8, n8, c8, by rw [ha]; exact putAll_put A 35 15 l _ (by omega) (by omega), by rw [List.length_set]; exact hlen, set_known hlen (by decide) hl, hB.imp_left .inr, hC.imp_left .inr, fun h => hQ (h.resolve_left (by decide)), fun h h' => hWi (h.resolve_left (by decide)) (fun k => h' (.inr k))⟩
            | 16, ho =>
              cases Option.some.inj ho
              have ev : a.tmps[47]? = some (.agg #[.int .i64 ch, .slice va vn vc]) := known_at ha hsz hlen hl 12 (by decide) (hd ⟨12, .data⟩ (by simp) rfl)
              have ev' : a.tmps[49]? = some (.int .i64 c) := known_at ha hsz hlen hl 14 (by decide) (hd ⟨14, .data⟩ (by simp) rfl)
              have ev'' : a.tmps[50]? = some (.agg #[.int .i64 oo, .bool g, .int .i64 cc, .slice sa sn sc, .slice ba bn bc]) := known_at ha hsz hlen hl 15 (by decide) (hd ⟨15, .data⟩ (by simp) rfl)
              have hb := hB.resolve_left hn
              refine wp_enter (f := 36) (args := #[.agg #[.int .i64 ch, .slice va vn vc], .int .i64 c, .agg #[.int .i64 oo, .bool g, .int .i64 cc, .slice sa sn sc, .slice ba bn bc]]) (by simp [execOp, ev, ev', ev'', go_sem]) ?_
              refine (with_any ch c oo cc g (hrow.same (fun _ h => h) (fun _ _ h => h) (fun _ h => h) (fun q hq _ => hb.block q hq) (fun q hq => hb.block q (hrow.block hq).2.1)) (io.below hb) hsn hbn hc64 hxl (fun q hq => Nat.lt_of_lt_of_le (hs.sl q hq) hb.size) (fun q hq => Nat.lt_of_lt_of_le (hs.rl q hq) hb.size) (fun q cur e hq hh => hs.ty q cur e hq (by rw [← hb.block q (hs.sl q hq)]; exact hh))).mono ?_
              rintro e w6 ⟨a8', n8', c8', rfl, FN⟩
              refine ⟨_, rfl, ?_⟩
              exact ⟨_, a8', n8', c8', by rw [ha]; exact putAll_put A 35 16 l _ (by omega) (by omega), by rw [List.length_set]; exact hlen, set_known' (val' := aplV b b3 b6 mb oo c ch cc g va sa ba vn vc sn sc bn bc a8' n8' c8') hlen (by decide) hl (fun j hj hne => match j, hj, hne with | 0, _, _ => rfl | 1, _, _ => rfl | 2, _, _ => rfl | 3, _, _ => rfl | 4, _, _ => rfl | 5, _, _ => rfl | 6, _, _ => rfl | 7, _, _ => rfl | 8, _, _ => rfl | 9, _, _ => rfl | 10, _, _ => rfl | 11, _, _ => rfl | 12, _, _ => rfl | 13, _, _ => rfl | 14, _, _ => rfl | 15, _, _ => rfl | 16, _, hne => absurd rfl hne | j + 17, _, _ => rfl), .inl (.inl rfl), .inr ⟨apl_keep hb FN hrow hblkq (by decide), apl_keep hb FN hrow E6 (by decide)⟩, fun h => absurd (h.resolve_left (by decide)) (fun h => hn (hcl 17 _ rfl h ⟨16, .data⟩ (by simp) rfl)), fun _ _ => ⟨w', hb, FN⟩⟩
            | 17, ho =>
              cases Option.some.inj ho
              have ev : a.tmps[38]? = some (.map (some mb)) := known_at ha hsz hlen hl 3 (by decide) (hd ⟨3, .data⟩ (by simp) rfl)
              have ev' : a.tmps[40]? = some (.int .i64 oo) := known_at ha hsz hlen hl 5 (by decide) (hd ⟨5, .data⟩ (by simp) rfl)
              have ev'' : a.tmps[51]? = some (.agg #[.int .i64 c, .slice a8 n8 c8]) := known_at ha hsz hlen hl 16 (by decide) (hd ⟨16, .data⟩ (by simp) rfl)
              obtain ⟨wp, hbp, FN⟩ := hWi (hd ⟨16, .data⟩ (by simp) rfl) hn
              obtain ⟨w7, hr7, M7, g7⟩ := (hM.map6 hs hbp (by rw [hch.out]; exact hget.out) FN).update (P := Try.prog) Try.underlying70 Try.underlying2 oo (.agg #[.int .i64 c, .slice a8 n8 c8])
              refine wp_skip (w' := w7) (by simp [execOp, Act.eval, ev, ev', ev'', go_sem, hr7]) ?_
              exact ⟨l, a8, n8, c8, ha, hlen, fun j hj h => hl j hj (h.resolve_left (by omega)), .inl (.inr (hd ⟨16, .data⟩ (by simp) rfl)), .inl (.inl rfl), fun _ => ⟨wp, w', hbp, FN, M7, g7⟩, fun _ h' => absurd (.inl rfl) h'⟩
            | i + 18, ho => simp at ho
          case done =>
            rintro D a w' ⟨l, a8, n8, c8, ha, hlen, hl, hB, hC, hQ, hWi⟩ hall
            obtain ⟨v0, v1, v2, v3, v4, v5, v6, v7, v8, v9, v10, v11, v12, v13, v14, v15, v16, rfl⟩ := aplV_list hlen
            obtain ⟨wp, w6, hbp, FN, M7, g7⟩ := hQ (hall 17 (by decide))
            subst hA
            have hfr : a = _ := ha
            rw [hfr]
            clear hfr ha
            simp only [putAll, List.take_succ_cons, List.take_zero, List.drop_succ_cons, List.drop_zero, List.cons_append, List.nil_append, List.length_cons, List.length_nil]
            clear hl hB hQ hWi hC hall
            have k6 := apl_keep hbp FN hrow hblkq (by decide)
            have hbm : b ≠ mb := hM.map.noCells hblkq
            obtain ⟨S2, R2, t1, t2, t3, t4, t5, _, _⟩ := hM.turn hs hbp (by rw [hch.out]; exact hget.out) FN M7 g7 ho.out (m' := putM c ⟨oo, g, cc, vs, bs⟩ mk) (by simp [putM]) (fun q hq => by simp [putM, hq])
            have hmid := Mid.step gS gR hfr B6 hSb hblkq t1 t2 t3 t4 t5 k6 g7 hbm
            have hsnoc : xs.take (k + 1) = xs.take k ++ [⟨oo, g, cc, vs, bs⟩] := take_at hx.out
            have happ : applM c (xs.take (k + 1)) t.m = putM c ⟨oo, g, cc, vs, bs⟩ mk := by rw [hsnoc, applM_snoc, hmk.out]
            rw [← happ] at hmid
            clear hsnoc happ t1 t2 t3 t4 t5 k6 hbm hM hs M7 g7 FN hbp hrow io hblkq
            go_wp2
            go_roundw
            case rel => exact ⟨k + 1, by omega, by go_num, hmid⟩
            case measure => simp [intOf]; omega
        · have hki : ¬ (k : Int) < (n : Int) := by omega
          have hkn : k = n := by omega
          have hst := tab_frozen hblk 1
          obtain ⟨z0, z1⟩ := rec_cells Gr
          obtain ⟨y0, y1, y2⟩ := tab_cells hblk
          have hkx : xs.take k = xs := List.take_of_length_le (by rw [r3.isC.size]; omega)
          have hok' : okL 0 xs = true := by unfold okR at hok; simp at hok; exact hok.2
          have hc1 : 1 ≤ c ∧ c ≤ 1099511627776 := by unfold okR at hok; simp at hok; exact hok.1.1
          have gk := GoodM.applK h3.good (by have := h3.first0; omega) hle hok' k
          have e1 : applyE t c xs = 0 := by simp [applyE, hok]; omega
          have e2 : applyT t c xs = ⟨t.first, c, applM c xs t.m⟩ := by simp [applyT, e1]
          have fin := Mid.done (c := c) ⟨⟨F, S', R', hM, hs, hSb, gS, gR⟩, hblk, hfr⟩ gk (by have := h3.first0; omega) h3.own
          rw [hkx] at fin
          replace fin : Hid _ := fin
          clear hkx hok' hc1 gk hkn
          go_wp2
          go_ret
          obtain ⟨S2, R2, f1, f2, f3, f4⟩ := fin.out
          refine ⟨rfl, S2, R2, f1, ⟨f2.old, fun q hq => ?_⟩, ⟨f3.old, fun q hq => ?_⟩, (Fr.of_below B3).trans f4 (fun _ _ h => h)⟩
          · rcases f2.new q hq with z | ⟨z, z'⟩
            · exact .inl z
            · exact .inr ⟨Nat.le_trans B3.size z, z'⟩
          · rcases f3.new q hq with z | ⟨z, z'⟩
            · exact .inl z
            · exact .inr ⟨Nat.le_trans B3.size z, z'⟩
end Go.Proofs.Ytajdelinfkodbaa
