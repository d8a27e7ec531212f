/- Copy: the copy stays while the old one goes on. -/
import Derived.Test.YtajdelinfkodbaaCpy
import Derived.Test.YtajdelinfkodbaaWtp
namespace Go.Proofs.Ytajdelinfkodbaa
open Go.RowKit
set_option maxRecDepth 100000
/-- A row's cells in use stay, and it stays a row. -/
structure PreT (w w' : World) (v : Value) : Prop where
  pre : PreV w w' v
  row : ∀ g, v.ownBlock = some g → ∃ cur, w'.heap[g]? = some (.cells cur 104 (0, 0))
theorem PreT.of_block {w w' : World} {S R : Nat → Prop} {v : Value} {xs : List Ch} (hr : RowT w S R v xs) (h : ∀ q, v.ownBlock = some q → w'.heap[q]? = w.heap[q]?) : PreT w w' v := ⟨PreV.of_block h, fun g hg => by
  obtain ⟨_, _, cur, hc⟩ := hr.block hg
  exact ⟨cur, (h g hg).trans hc⟩⟩
theorem IsMap.uniq {w : World} {b : Nat} {f g : Int → Option Value} (h : IsMap w b f) (k : IsMap w b g) : f = g := by
  obtain ⟨L, c, h1, _, h3, _⟩ := h
  obtain ⟨M, d, k1, _, k3, _⟩ := k
  rw [h1] at k1
  injection k1 with k1
  injection k1 with k1
  have e : L.map ent = M.map ent := by simpa using congrArg Array.toList k1
  have inj : ∀ (L M : List (Int × Value × Nat)), L.map ent = M.map ent → L = M := by
    intro L
    induction L with
    | nil => intro M q; cases M with
      | nil => rfl
      | cons p r => simp at q
    | cons p r ih => intro M q; cases M with
      | nil => simp at q
      | cons p' r' =>
        simp only [List.map_cons, List.cons.injEq] at q
        obtain ⟨q1, q2⟩ := q
        have : p = p' := by
          unfold ent at q1
          injection q1 with a1 a2 a3
          injection a1 with _ a1
          exact Prod.ext a1 (Prod.ext a2 a3)
        rw [this, ih _ q2]
  have := inj L M e
  subst this
  funext x
  rw [h3, k3]
/-- What a copy asks to stay as it is. -/
structure KeepC (w : World) (S R : Nat → Prop) (b : Nat) (t : Tab) (S2 : Nat → Prop) (w' w2 : World) : Prop where
  size : w'.heap.size ≤ w2.heap.size
  keep : ∀ g, S2 g ∨ R g → w2.heap[g]? = w'.heap[g]?
  rows : ∀ mb F, w.heap[b]? = some (tabB t.first t.last (some mb)) → TbM w S R mb F t.m → ∀ k c sv, F k = some (.agg #[c, sv]) → PreT w' w2 sv
theorem KeepC.refl {w w' : World} {S R S2 : Nat → Prop} {b : Nat} {t : Tab} (hb : Below w.heap.size w w') : KeepC w S R b t S2 w' w' := ⟨Nat.le_refl _, fun _ _ => rfl, fun mb F _ hM k c sv hk => by
  obtain ⟨sv0, e, hr⟩ := hM.yes k _ hk
  obtain ⟨_, rfl⟩ := agg2 e
  exact PreT.of_block (S := S) (R := R) (xs := (t.m k).vs) (hr.same (fun _ h => h) (fun _ _ h => h) (fun _ h => h) (fun g hg _ => hb.block g hg) (fun g hg => hb.block g (hr.block hg).2.1)) (fun _ _ => rfl)⟩
theorem RowT.clip2 {w w' w2 : World} {S R S2 R2 : Nat → Prop} {a : Option Addr} {n cap : Nat} {xs : List Ch} (h : RowT w S R (.slice a n cap) xs) (hS : ∀ g, g < w.heap.size → ¬ S2 g) (h1 : ∀ g, S g → R2 g) (h2 : ∀ g, R g → R2 g) (hb : Below w.heap.size w w') (hk : ∀ g, R g → w2.heap[g]? = w'.heap[g]?) (hp : PreT w' w2 (.slice a n cap)) : RowT w2 S2 R2 (.slice a n n) xs := by
  obtain ⟨ss, rfl, q1, q2, q3⟩ := h
  refine ⟨ss, rfl, fun s hs => (q1 s hs).same h2 (fun g hg hR => (hk g hR).trans (hb.block g hg)), q2, ?_⟩
  have cells : ∀ (g : Nat), a = some ⟨g, 0, none⟩ → n = ss.length → g < w.heap.size → (∀ j u, (flatC ss)[j]? = some u → w.cell? ⟨g, j, none⟩ = some u) → ∃ cur, w2.heap[g]? = some (.cells cur 104 (0, 0)) ∧ ∀ (j : Nat) (u : Value), (flatC ss)[j]? = some u → cur[j]? = some u := fun g e en hlt hc => by
    obtain ⟨cur, hcur⟩ := hp.row g (by rw [e]; rfl)
    refine ⟨cur, hcur, fun j u hj => ?_⟩
    have hjl : j < n * 5 := by have := (List.getElem?_eq_some_iff.1 hj).1; rw [flatC_len'] at this; omega
    have c1 := (hb.cell (p := ⟨g, j, none⟩) hlt).trans (hc j u hj)
    have c2 := hp.pre g n cap (by rw [e]) j u hjl c1
    rw [cell_of_row w2 g j cur 104 _ hcur] at c2
    exact c2
  rcases q3 with ⟨o1, o2⟩ | ⟨g, cur, e, p1, p2, p3, p4, p5, p6⟩
  · rcases o1.2 with ⟨e, h0⟩ | ⟨g, cap', cur, e, hbg, hgh, hnc, hcm, hcs, htake⟩
    · cases e
      have : ss = [] := List.eq_nil_of_length_eq_zero h0
      subst this
      exact .inl ⟨World.ownsRow_nil _ _ _ _, fun g hg => by simp [Value.ownBlock] at hg⟩
    · cases e
      obtain ⟨cur2, c1, c2⟩ := cells g rfl rfl (lt_of_block hgh) (fun j u hj => by
        have := World.ownsRow.cells o1 (g := g) rfl j u hj
        rw [addr_add, Nat.zero_add] at this
        exact this)
      exact .inr ⟨g, cur2, rfl, Nat.zero_le _, Nat.le_trans hnc hcm, h1 g (o2 g rfl), hS g (lt_of_block hgh), c1, c2⟩
  · cases e
    obtain ⟨cur2, c1, c2⟩ := cells g rfl rfl (lt_of_block p5) (fun j u hj => by rw [cell_of_row w g j cur 104 _ p5]; exact p6 j u hj)
    exact .inr ⟨g, cur2, rfl, p1, p2, h2 g p3, hS g (lt_of_block p5), c1, c2⟩
theorem Clp.tabK {w w' : World} {S R : Nat → Prop} {b mb mu bu : Nat} {F G : Int → Option Value} {left : Int → Bool} {t : Tab} (h : Clp F G left) (hl : ∀ k, F k ≠ none → left k = false) (hM : TbM w S R mb F t.m) (hs : Sets w S R) (hg : GoodM t.m t.last) (h0 : 0 ≤ t.first ∧ t.first ≤ t.last ∧ t.last ≤ 1099511627776) (hG : IsMap w' mu G) (hmu : w.heap.size ≤ mu) (hbu : w.heap.size ≤ bu) (hblk : w'.heap[bu]? = some (tabB t.first t.last (some mu))) (hB : Below w.heap.size w w') (hob : w.heap[b]? = some (tabB t.first t.last (some mb))) :
    ∀ w2, KeepC w S R b t (fun g => g = bu ∨ g = mu) w' w2 → Tb w2 (fun g => g = bu ∨ g = mu) (fun g => S g ∨ R g) bu t := by
  intro w2 KC
  have hS : ∀ g, g < w.heap.size → ¬ (g = bu ∨ g = mu) := fun g hg e => by omega
  have hsz := KC.size
  have hblk2 := (KC.keep bu (.inl (.inl rfl))).trans hblk
  have hG2 : IsMap w2 mu G := hG.same (KC.keep mu (.inl (.inr rfl)))
  have key : ∀ k v, F k = some v → ∃ va vn vc, v = .agg #[.int .i64 (t.m k).chg, .slice va vn vc] ∧ RowT w S R (.slice va vn vc) (t.m k).vs ∧ PreT w' w2 (.slice va vn vc) ∧ G k = some (.agg #[.int .i64 (t.m k).chg, .slice va vn vn]) := fun k v hv => by
    obtain ⟨sv, rfl, hr⟩ := hM.yes k v hv
    obtain ⟨va, vn, vc, rfl, _⟩ := hr.shape
    exact ⟨va, vn, vc, rfl, hr, KC.rows mb F hob hM k _ _ hv, h.cut k _ _ _ _ hv (hl k (by rw [hv]; simp))⟩
  refine ⟨⟨some mu, hblk2, G, ⟨hG2, .inr rfl, fun k hk => hM.dom k (fun e => hk (h.no k e)), fun k hk => hM.no k ?_, fun k v hv => ?_, fun k k' c c' sv sv' g e1 e2 e3 e4 e5 => ?_⟩⟩, .inl rfl, ⟨fun g hg => ?_, fun g hg => Nat.lt_of_lt_of_le (Nat.lt_of_lt_of_le (hs.lt hg) hB.size) hsz, fun g hg e => hS g (hs.lt hg) e, fun g cur e hg hh => ?_⟩, hg, h0⟩
  · cases hF : F k with
    | none => rfl
    | some v =>
      obtain ⟨_, _, _, _, _, _, e⟩ := key k v hF
      rw [hk] at e
      cases e
  · cases hF : F k with
    | none => rw [h.no k hF] at hv; cases hv
    | some u =>
      obtain ⟨va, vn, vc, rfl, hr, hp, e⟩ := key k u hF
      rw [hv] at e
      cases e
      exact ⟨_, rfl, hr.clip2 hS (fun _ h => .inl h) (fun _ h => .inr h) hB (fun g hg => KC.keep g (.inr hg)) hp⟩
  · cases hF : F k with
    | none => rw [h.no k hF] at e1; cases e1
    | some u =>
      obtain ⟨va, vn, vc, rfl, hr, hp, e⟩ := key k u hF
      rw [e1] at e
      obtain ⟨_, rfl⟩ := agg2 (Option.some.inj e)
      have : g < w.heap.size := by
        cases va with
        | none => simp [Value.ownBlock] at e3
        | some ad => exact (hr.block (g := g) (by simpa [Value.ownBlock] using e3)).2.1
      exact absurd e5 (hS g this)
  · rcases hg with rfl | rfl
    · exact lt_of_block' hblk2
    · exact hG2.lt
  · rcases hg with rfl | rfl
    · rw [hblk2] at hh
      unfold tabB at hh
      cases hh
      exact .inl rfl
    · exact absurd rfl (hG2.noCells hh)
set_option maxHeartbeats 8000000 in
theorem copy_tabK {w : World} {S R : Nat → Prop} {b : Nat} {t : Tab} (h : Tb w S R b t) :
    Calls Try.prog 18 #[.pointer (some ⟨b, 0, none⟩)] w fun e w' => ∃ bu S2, e = .returned (.pointer (some ⟨bu, 0, none⟩)) ∧ (∀ w2, KeepC w S R b t S2 w' w2 → Tb w2 S2 (fun g => S g ∨ R g) bu t) ∧ (∀ g, S2 g → w.heap.size ≤ g) ∧ Below w.heap.size w w' := by
  obtain ⟨mv, hb, hV⟩ := h.blk
  obtain ⟨x0, x1, x2⟩ := tab_cells hb
  have hs := h.sets
  have hg := h.good
  have h0 := h.first0
  replace h0 : Hid _ := h0
  cases mv with
  | none =>
    replace hV : ∀ k, t.m k = ⟨0, []⟩ := hV
    clear h
    go_enter Try.func18, Try.ntmps18
    go_upto_region 3 with fail
    refine wp_region_inv' (fun A D a w' => ∃ v8 v9 v10 v11 v12 v13 v14 v15 v16 v17 v18 v19 v20 v21 v22 v3 bu, a = ((((((((((((((((A.put (some 8) v8).put (some 9) v9).put (some 10) v10).put (some 11) v11).put (some 12) v12).put (some 13) v13).put (some 14) v14).put (some 15) v15).put (some 16) v16).put (some 17) v17).put (some 18) v18).put (some 19) v19).put (some 20) v20).put (some 21) v21).put (some 22) v22).put (some 3) v3) ∧ Below w.heap.size w w' ∧ (D 0 → v8 = .pointer (some ⟨b, 0, none⟩)) ∧ (D 1 → v9 = .pointer (some ⟨b, 0, none⟩)) ∧ (D 2 → v10 = .pointer (some ⟨b, 0, none⟩)) ∧ (D 3 → v11 = .int .i64 t.first) ∧ (D 4 → v12 = .pointer (some ⟨b, 0, none⟩)) ∧ (D 5 → v13 = .pointer (some ⟨b, 0, none⟩)) ∧ (D 6 → v14 = .pointer (some ⟨b, 1, none⟩)) ∧ (D 7 → v15 = .int .i64 t.last) ∧ (D 8 → v16 = .pointer (some ⟨b, 0, none⟩)) ∧ (D 9 → v17 = .pointer (some ⟨b, 0, none⟩)) ∧ (D 10 → v18 = .pointer (some ⟨b, 2, none⟩)) ∧ (D 11 → v19 = .map none) ∧ (D 12 → v20 = .map none) ∧ (D 13 → v21 = .agg #[.int .i64 t.first, .int .i64 t.last, .map none]) ∧ (D 14 → v22 = .pointer (some ⟨bu, 0, none⟩)) ∧ (D 15 → v3 = .pointer (some ⟨bu, 0, none⟩)) ∧ (D 14 → w'.heap[bu]? = some (tabB t.first t.last none) ∧ w.heap.size ≤ bu)) (by kernel_rfl) (by kernel_rfl) ?mono ?start ?step ?done
    case mono =>
      rintro D D' a w' hD ⟨v8, v9, v10, v11, v12, v13, v14, v15, v16, v17, v18, v19, v20, v21, v22, v3, bu, ha, hB, e0, e1, e2, e3, e4, e5, e6, e7, e8, e9, e10, e11, e12, e13, e14, e15, hu⟩
      exact ⟨v8, v9, v10, v11, v12, v13, v14, v15, v16, v17, v18, v19, v20, v21, v22, v3, bu, ha, hB, fun h => e0 ((hD 0).2 h), fun h => e1 ((hD 1).2 h), fun h => e2 ((hD 2).2 h), fun h => e3 ((hD 3).2 h), fun h => e4 ((hD 4).2 h), fun h => e5 ((hD 5).2 h), fun h => e6 ((hD 6).2 h), fun h => e7 ((hD 7).2 h), fun h => e8 ((hD 8).2 h), fun h => e9 ((hD 9).2 h), fun h => e10 ((hD 10).2 h), fun h => e11 ((hD 11).2 h), fun h => e12 ((hD 12).2 h), fun h => e13 ((hD 13).2 h), fun h => e14 ((hD 14).2 h), fun h => e15 ((hD 15).2 h), fun h => hu ((hD 14).2 h)⟩
    case start => exact ⟨undef, undef, undef, undef, undef, undef, undef, undef, undef, undef, undef, undef, undef, undef, undef, undef, 0, by kernel_rfl, (Below.refl _ _).drew, fun h => h.elim, fun h => h.elim, fun h => h.elim, fun h => h.elim, fun h => h.elim, fun h => h.elim, fun h => h.elim, fun h => h.elim, fun h => h.elim, fun h => h.elim, fun h => h.elim, fun h => h.elim, fun h => h.elim, fun h => h.elim, fun h => h.elim, fun h => h.elim, fun h => h.elim⟩
    case step =>
      intro i o ho D a w' hI hn hcl hd
      obtain ⟨v8, v9, v10, v11, v12, v13, v14, v15, v16, v17, v18, v19, v20, v21, v22, v3, bu, ha, hB, e0, e1, e2, e3, e4, e5, e6, e7, e8, e9, e10, e11, e12, e13, e14, e15, hu⟩ := hI
      match i, ho with
      | 0, ho =>
        cases Option.some.inj ho
        have ev : a.tmps[0]?.getD undef = .pointer (some ⟨b, 0, none⟩) := by rw [ha]; kernel_rfl
        refine wp_value (w' := w') (v := .pointer (some ⟨b, 0, none⟩)) (by simp [execOp, ev, go_sem]) ?_
        exact ⟨(.pointer (some ⟨b, 0, none⟩)), v9, v10, v11, v12, v13, v14, v15, v16, v17, v18, v19, v20, v21, v22, v3, bu, by rw [ha]; kernel_rfl, hB, fun _ => rfl, fun h => e1 (h.resolve_left (by decide)), fun h => e2 (h.resolve_left (by decide)), fun h => e3 (h.resolve_left (by decide)), fun h => e4 (h.resolve_left (by decide)), fun h => e5 (h.resolve_left (by decide)), fun h => e6 (h.resolve_left (by decide)), fun h => e7 (h.resolve_left (by decide)), fun h => e8 (h.resolve_left (by decide)), fun h => e9 (h.resolve_left (by decide)), fun h => e10 (h.resolve_left (by decide)), fun h => e11 (h.resolve_left (by decide)), fun h => e12 (h.resolve_left (by decide)), fun h => e13 (h.resolve_left (by decide)), fun h => e14 (h.resolve_left (by decide)), fun h => e15 (h.resolve_left (by decide)), fun h => hu (h.resolve_left (by decide))⟩
      | 1, ho =>
        cases Option.some.inj ho
        have ev : a.tmps[8]?.getD undef = .pointer (some ⟨b, 0, none⟩) := by rw [ha, e0 (hd ⟨0, .data⟩ (by simp) rfl)]; kernel_rfl
        refine wp_value (w' := w') (v := .pointer (some ⟨b, 0, none⟩)) (by simp [execOp, ev, go_sem]) ?_
        exact ⟨v8, (.pointer (some ⟨b, 0, none⟩)), v10, v11, v12, v13, v14, v15, v16, v17, v18, v19, v20, v21, v22, v3, bu, by rw [ha]; kernel_rfl, hB, fun h => e0 (h.resolve_left (by decide)), fun _ => rfl, fun h => e2 (h.resolve_left (by decide)), fun h => e3 (h.resolve_left (by decide)), fun h => e4 (h.resolve_left (by decide)), fun h => e5 (h.resolve_left (by decide)), fun h => e6 (h.resolve_left (by decide)), fun h => e7 (h.resolve_left (by decide)), fun h => e8 (h.resolve_left (by decide)), fun h => e9 (h.resolve_left (by decide)), fun h => e10 (h.resolve_left (by decide)), fun h => e11 (h.resolve_left (by decide)), fun h => e12 (h.resolve_left (by decide)), fun h => e13 (h.resolve_left (by decide)), fun h => e14 (h.resolve_left (by decide)), fun h => e15 (h.resolve_left (by decide)), fun h => hu (h.resolve_left (by decide))⟩
      | 2, ho =>
        cases Option.some.inj ho
        have ev : a.tmps[9]?.getD undef = .pointer (some ⟨b, 0, none⟩) := by rw [ha, e1 (hd ⟨1, .data⟩ (by simp) rfl)]; kernel_rfl
        refine wp_value (w' := w') (v := .pointer (some ⟨b, 0, none⟩)) (by simp [execOp, ev, go_sem]) ?_
        exact ⟨v8, v9, (.pointer (some ⟨b, 0, none⟩)), v11, v12, v13, v14, v15, v16, v17, v18, v19, v20, v21, v22, v3, bu, by rw [ha]; kernel_rfl, hB, fun h => e0 (h.resolve_left (by decide)), fun h => e1 (h.resolve_left (by decide)), fun _ => rfl, fun h => e3 (h.resolve_left (by decide)), fun h => e4 (h.resolve_left (by decide)), fun h => e5 (h.resolve_left (by decide)), fun h => e6 (h.resolve_left (by decide)), fun h => e7 (h.resolve_left (by decide)), fun h => e8 (h.resolve_left (by decide)), fun h => e9 (h.resolve_left (by decide)), fun h => e10 (h.resolve_left (by decide)), fun h => e11 (h.resolve_left (by decide)), fun h => e12 (h.resolve_left (by decide)), fun h => e13 (h.resolve_left (by decide)), fun h => e14 (h.resolve_left (by decide)), fun h => e15 (h.resolve_left (by decide)), fun h => hu (h.resolve_left (by decide))⟩
      | 3, ho =>
        cases Option.some.inj ho
        have ev : a.tmps[10]?.getD undef = .pointer (some ⟨b, 0, none⟩) := by rw [ha, e2 (hd ⟨2, .data⟩ (by simp) rfl)]; kernel_rfl
        have hc := (hB.cell (p := ⟨b, 0, none⟩) (lt_of_cell x0)).trans x0
        refine wp_value (w' := w') (v := .int .i64 t.first) (by simp [execOp, ev, go_sem, hc]) ?_
        exact ⟨v8, v9, v10, (.int .i64 t.first), v12, v13, v14, v15, v16, v17, v18, v19, v20, v21, v22, v3, bu, by rw [ha]; kernel_rfl, hB, fun h => e0 (h.resolve_left (by decide)), fun h => e1 (h.resolve_left (by decide)), fun h => e2 (h.resolve_left (by decide)), fun _ => rfl, fun h => e4 (h.resolve_left (by decide)), fun h => e5 (h.resolve_left (by decide)), fun h => e6 (h.resolve_left (by decide)), fun h => e7 (h.resolve_left (by decide)), fun h => e8 (h.resolve_left (by decide)), fun h => e9 (h.resolve_left (by decide)), fun h => e10 (h.resolve_left (by decide)), fun h => e11 (h.resolve_left (by decide)), fun h => e12 (h.resolve_left (by decide)), fun h => e13 (h.resolve_left (by decide)), fun h => e14 (h.resolve_left (by decide)), fun h => e15 (h.resolve_left (by decide)), fun h => hu (h.resolve_left (by decide))⟩
      | 4, ho =>
        cases Option.some.inj ho
        have ev : a.tmps[0]?.getD undef = .pointer (some ⟨b, 0, none⟩) := by rw [ha]; kernel_rfl
        refine wp_value (w' := w') (v := .pointer (some ⟨b, 0, none⟩)) (by simp [execOp, ev, go_sem]) ?_
        exact ⟨v8, v9, v10, v11, (.pointer (some ⟨b, 0, none⟩)), v13, v14, v15, v16, v17, v18, v19, v20, v21, v22, v3, bu, by rw [ha]; kernel_rfl, hB, fun h => e0 (h.resolve_left (by decide)), fun h => e1 (h.resolve_left (by decide)), fun h => e2 (h.resolve_left (by decide)), fun h => e3 (h.resolve_left (by decide)), fun _ => rfl, fun h => e5 (h.resolve_left (by decide)), fun h => e6 (h.resolve_left (by decide)), fun h => e7 (h.resolve_left (by decide)), fun h => e8 (h.resolve_left (by decide)), fun h => e9 (h.resolve_left (by decide)), fun h => e10 (h.resolve_left (by decide)), fun h => e11 (h.resolve_left (by decide)), fun h => e12 (h.resolve_left (by decide)), fun h => e13 (h.resolve_left (by decide)), fun h => e14 (h.resolve_left (by decide)), fun h => e15 (h.resolve_left (by decide)), fun h => hu (h.resolve_left (by decide))⟩
      | 5, ho =>
        cases Option.some.inj ho
        have ev : a.tmps[12]?.getD undef = .pointer (some ⟨b, 0, none⟩) := by rw [ha, e4 (hd ⟨4, .data⟩ (by simp) rfl)]; kernel_rfl
        refine wp_value (w' := w') (v := .pointer (some ⟨b, 0, none⟩)) (by simp [execOp, ev, go_sem]) ?_
        exact ⟨v8, v9, v10, v11, v12, (.pointer (some ⟨b, 0, none⟩)), v14, v15, v16, v17, v18, v19, v20, v21, v22, v3, bu, by rw [ha]; kernel_rfl, hB, fun h => e0 (h.resolve_left (by decide)), fun h => e1 (h.resolve_left (by decide)), fun h => e2 (h.resolve_left (by decide)), fun h => e3 (h.resolve_left (by decide)), fun h => e4 (h.resolve_left (by decide)), fun _ => rfl, fun h => e6 (h.resolve_left (by decide)), fun h => e7 (h.resolve_left (by decide)), fun h => e8 (h.resolve_left (by decide)), fun h => e9 (h.resolve_left (by decide)), fun h => e10 (h.resolve_left (by decide)), fun h => e11 (h.resolve_left (by decide)), fun h => e12 (h.resolve_left (by decide)), fun h => e13 (h.resolve_left (by decide)), fun h => e14 (h.resolve_left (by decide)), fun h => e15 (h.resolve_left (by decide)), fun h => hu (h.resolve_left (by decide))⟩
      | 6, ho =>
        cases Option.some.inj ho
        have ev : a.tmps[13]?.getD undef = .pointer (some ⟨b, 0, none⟩) := by rw [ha, e5 (hd ⟨5, .data⟩ (by simp) rfl)]; kernel_rfl
        refine wp_value (w' := w') (v := .pointer (some ⟨b, 1, none⟩)) (by simp [execOp, ev, go_sem]) ?_
        exact ⟨v8, v9, v10, v11, v12, v13, (.pointer (some ⟨b, 1, none⟩)), v15, v16, v17, v18, v19, v20, v21, v22, v3, bu, by rw [ha]; kernel_rfl, hB, fun h => e0 (h.resolve_left (by decide)), fun h => e1 (h.resolve_left (by decide)), fun h => e2 (h.resolve_left (by decide)), fun h => e3 (h.resolve_left (by decide)), fun h => e4 (h.resolve_left (by decide)), fun h => e5 (h.resolve_left (by decide)), fun _ => rfl, fun h => e7 (h.resolve_left (by decide)), fun h => e8 (h.resolve_left (by decide)), fun h => e9 (h.resolve_left (by decide)), fun h => e10 (h.resolve_left (by decide)), fun h => e11 (h.resolve_left (by decide)), fun h => e12 (h.resolve_left (by decide)), fun h => e13 (h.resolve_left (by decide)), fun h => e14 (h.resolve_left (by decide)), fun h => e15 (h.resolve_left (by decide)), fun h => hu (h.resolve_left (by decide))⟩
      | 7, ho =>
        cases Option.some.inj ho
        have ev : a.tmps[14]?.getD undef = .pointer (some ⟨b, 1, none⟩) := by rw [ha, e6 (hd ⟨6, .data⟩ (by simp) rfl)]; kernel_rfl
        have hc := (hB.cell (p := ⟨b, 1, none⟩) (lt_of_cell x1)).trans x1
        refine wp_value (w' := w') (v := .int .i64 t.last) (by simp [execOp, ev, go_sem, hc]) ?_
        exact ⟨v8, v9, v10, v11, v12, v13, v14, (.int .i64 t.last), v16, v17, v18, v19, v20, v21, v22, v3, bu, by rw [ha]; kernel_rfl, hB, fun h => e0 (h.resolve_left (by decide)), fun h => e1 (h.resolve_left (by decide)), fun h => e2 (h.resolve_left (by decide)), fun h => e3 (h.resolve_left (by decide)), fun h => e4 (h.resolve_left (by decide)), fun h => e5 (h.resolve_left (by decide)), fun h => e6 (h.resolve_left (by decide)), fun _ => rfl, fun h => e8 (h.resolve_left (by decide)), fun h => e9 (h.resolve_left (by decide)), fun h => e10 (h.resolve_left (by decide)), fun h => e11 (h.resolve_left (by decide)), fun h => e12 (h.resolve_left (by decide)), fun h => e13 (h.resolve_left (by decide)), fun h => e14 (h.resolve_left (by decide)), fun h => e15 (h.resolve_left (by decide)), fun h => hu (h.resolve_left (by decide))⟩
      | 8, ho =>
        cases Option.some.inj ho
        have ev : a.tmps[0]?.getD undef = .pointer (some ⟨b, 0, none⟩) := by rw [ha]; kernel_rfl
        refine wp_value (w' := w') (v := .pointer (some ⟨b, 0, none⟩)) (by simp [execOp, ev, go_sem]) ?_
        exact ⟨v8, v9, v10, v11, v12, v13, v14, v15, (.pointer (some ⟨b, 0, none⟩)), v17, v18, v19, v20, v21, v22, v3, bu, by rw [ha]; kernel_rfl, hB, fun h => e0 (h.resolve_left (by decide)), fun h => e1 (h.resolve_left (by decide)), fun h => e2 (h.resolve_left (by decide)), fun h => e3 (h.resolve_left (by decide)), fun h => e4 (h.resolve_left (by decide)), fun h => e5 (h.resolve_left (by decide)), fun h => e6 (h.resolve_left (by decide)), fun h => e7 (h.resolve_left (by decide)), fun _ => rfl, fun h => e9 (h.resolve_left (by decide)), fun h => e10 (h.resolve_left (by decide)), fun h => e11 (h.resolve_left (by decide)), fun h => e12 (h.resolve_left (by decide)), fun h => e13 (h.resolve_left (by decide)), fun h => e14 (h.resolve_left (by decide)), fun h => e15 (h.resolve_left (by decide)), fun h => hu (h.resolve_left (by decide))⟩
      | 9, ho =>
        cases Option.some.inj ho
        have ev : a.tmps[16]?.getD undef = .pointer (some ⟨b, 0, none⟩) := by rw [ha, e8 (hd ⟨8, .data⟩ (by simp) rfl)]; kernel_rfl
        refine wp_value (w' := w') (v := .pointer (some ⟨b, 0, none⟩)) (by simp [execOp, ev, go_sem]) ?_
        exact ⟨v8, v9, v10, v11, v12, v13, v14, v15, v16, (.pointer (some ⟨b, 0, none⟩)), v18, v19, v20, v21, v22, v3, bu, by rw [ha]; kernel_rfl, hB, fun h => e0 (h.resolve_left (by decide)), fun h => e1 (h.resolve_left (by decide)), fun h => e2 (h.resolve_left (by decide)), fun h => e3 (h.resolve_left (by decide)), fun h => e4 (h.resolve_left (by decide)), fun h => e5 (h.resolve_left (by decide)), fun h => e6 (h.resolve_left (by decide)), fun h => e7 (h.resolve_left (by decide)), fun h => e8 (h.resolve_left (by decide)), fun _ => rfl, fun h => e10 (h.resolve_left (by decide)), fun h => e11 (h.resolve_left (by decide)), fun h => e12 (h.resolve_left (by decide)), fun h => e13 (h.resolve_left (by decide)), fun h => e14 (h.resolve_left (by decide)), fun h => e15 (h.resolve_left (by decide)), fun h => hu (h.resolve_left (by decide))⟩
      | 10, ho =>
        cases Option.some.inj ho
        have ev : a.tmps[17]?.getD undef = .pointer (some ⟨b, 0, none⟩) := by rw [ha, e9 (hd ⟨9, .data⟩ (by simp) rfl)]; kernel_rfl
        refine wp_value (w' := w') (v := .pointer (some ⟨b, 2, none⟩)) (by simp [execOp, ev, go_sem]) ?_
        exact ⟨v8, v9, v10, v11, v12, v13, v14, v15, v16, v17, (.pointer (some ⟨b, 2, none⟩)), v19, v20, v21, v22, v3, bu, by rw [ha]; kernel_rfl, hB, fun h => e0 (h.resolve_left (by decide)), fun h => e1 (h.resolve_left (by decide)), fun h => e2 (h.resolve_left (by decide)), fun h => e3 (h.resolve_left (by decide)), fun h => e4 (h.resolve_left (by decide)), fun h => e5 (h.resolve_left (by decide)), fun h => e6 (h.resolve_left (by decide)), fun h => e7 (h.resolve_left (by decide)), fun h => e8 (h.resolve_left (by decide)), fun h => e9 (h.resolve_left (by decide)), fun _ => rfl, fun h => e11 (h.resolve_left (by decide)), fun h => e12 (h.resolve_left (by decide)), fun h => e13 (h.resolve_left (by decide)), fun h => e14 (h.resolve_left (by decide)), fun h => e15 (h.resolve_left (by decide)), fun h => hu (h.resolve_left (by decide))⟩
      | 11, ho =>
        cases Option.some.inj ho
        have ev : a.tmps[18]?.getD undef = .pointer (some ⟨b, 2, none⟩) := by rw [ha, e10 (hd ⟨10, .data⟩ (by simp) rfl)]; kernel_rfl
        have hc := (hB.cell (p := ⟨b, 2, none⟩) (lt_of_cell x2)).trans x2
        refine wp_value (w' := w') (v := .map none) (by simp [execOp, ev, go_sem, hc]) ?_
        exact ⟨v8, v9, v10, v11, v12, v13, v14, v15, v16, v17, v18, (.map none), v20, v21, v22, v3, bu, by rw [ha]; kernel_rfl, hB, fun h => e0 (h.resolve_left (by decide)), fun h => e1 (h.resolve_left (by decide)), fun h => e2 (h.resolve_left (by decide)), fun h => e3 (h.resolve_left (by decide)), fun h => e4 (h.resolve_left (by decide)), fun h => e5 (h.resolve_left (by decide)), fun h => e6 (h.resolve_left (by decide)), fun h => e7 (h.resolve_left (by decide)), fun h => e8 (h.resolve_left (by decide)), fun h => e9 (h.resolve_left (by decide)), fun h => e10 (h.resolve_left (by decide)), fun _ => rfl, fun h => e12 (h.resolve_left (by decide)), fun h => e13 (h.resolve_left (by decide)), fun h => e14 (h.resolve_left (by decide)), fun h => e15 (h.resolve_left (by decide)), fun h => hu (h.resolve_left (by decide))⟩
      | 12, ho =>
        cases Option.some.inj ho
        have ev : a.tmps[19]?.getD undef = .map none := by rw [ha, e11 (hd ⟨11, .data⟩ (by simp) rfl)]; kernel_rfl
        refine wp_enter (f := 44) (args := #[.map none]) (by simp [execOp, ev, go_sem]) ?_
        refine (clone_nilMap w').mono ?_
        rintro e w6 ⟨rfl, rfl⟩
        refine ⟨_, rfl, ?_⟩
        exact ⟨v8, v9, v10, v11, v12, v13, v14, v15, v16, v17, v18, v19, (.map none), v21, v22, v3, bu, by rw [ha]; kernel_rfl, hB, fun h => e0 (h.resolve_left (by decide)), fun h => e1 (h.resolve_left (by decide)), fun h => e2 (h.resolve_left (by decide)), fun h => e3 (h.resolve_left (by decide)), fun h => e4 (h.resolve_left (by decide)), fun h => e5 (h.resolve_left (by decide)), fun h => e6 (h.resolve_left (by decide)), fun h => e7 (h.resolve_left (by decide)), fun h => e8 (h.resolve_left (by decide)), fun h => e9 (h.resolve_left (by decide)), fun h => e10 (h.resolve_left (by decide)), fun h => e11 (h.resolve_left (by decide)), fun _ => rfl, fun h => e13 (h.resolve_left (by decide)), fun h => e14 (h.resolve_left (by decide)), fun h => e15 (h.resolve_left (by decide)), fun h => hu (h.resolve_left (by decide))⟩
      | 13, ho =>
        cases Option.some.inj ho
        have ev : a.tmps[11]?.getD undef = .int .i64 t.first := by rw [ha, e3 (hd ⟨3, .data⟩ (by simp) rfl)]; kernel_rfl
        have ev' : a.tmps[15]?.getD undef = .int .i64 t.last := by rw [ha, e7 (hd ⟨7, .data⟩ (by simp) rfl)]; kernel_rfl
        have ev'' : a.tmps[20]?.getD undef = .map none := by rw [ha, e12 (hd ⟨12, .data⟩ (by simp) rfl)]; kernel_rfl
        refine wp_value (w' := w') (v := .agg #[.int .i64 t.first, .int .i64 t.last, .map none]) (by simp [execOp, ev, ev', ev'', go_sem]) ?_
        exact ⟨v8, v9, v10, v11, v12, v13, v14, v15, v16, v17, v18, v19, v20, (.agg #[.int .i64 t.first, .int .i64 t.last, .map none]), v22, v3, bu, by rw [ha]; kernel_rfl, hB, fun h => e0 (h.resolve_left (by decide)), fun h => e1 (h.resolve_left (by decide)), fun h => e2 (h.resolve_left (by decide)), fun h => e3 (h.resolve_left (by decide)), fun h => e4 (h.resolve_left (by decide)), fun h => e5 (h.resolve_left (by decide)), fun h => e6 (h.resolve_left (by decide)), fun h => e7 (h.resolve_left (by decide)), fun h => e8 (h.resolve_left (by decide)), fun h => e9 (h.resolve_left (by decide)), fun h => e10 (h.resolve_left (by decide)), fun h => e11 (h.resolve_left (by decide)), fun h => e12 (h.resolve_left (by decide)), fun _ => rfl, fun h => e14 (h.resolve_left (by decide)), fun h => e15 (h.resolve_left (by decide)), fun h => hu (h.resolve_left (by decide))⟩
      | 14, ho =>
        cases Option.some.inj ho
        have ev : a.tmps[21]?.getD undef = .agg #[.int .i64 t.first, .int .i64 t.last, .map none] := by rw [ha, e13 (hd ⟨13, .data⟩ (by simp) rfl)]; kernel_rfl
        refine wp_value (w' := w'.alloc (.cells #[.int .i64 t.first, .int .i64 t.last, .map none] 72)) (v := .pointer (some ⟨w'.heap.size, 0, none⟩)) (by simp [execOp, ev, go_sem]) ?_
        exact ⟨v8, v9, v10, v11, v12, v13, v14, v15, v16, v17, v18, v19, v20, v21, (.pointer (some ⟨w'.heap.size, 0, none⟩)), v3, w'.heap.size, by rw [ha]; kernel_rfl, hB.alloc hB.size _, fun h => e0 (h.resolve_left (by decide)), fun h => e1 (h.resolve_left (by decide)), fun h => e2 (h.resolve_left (by decide)), fun h => e3 (h.resolve_left (by decide)), fun h => e4 (h.resolve_left (by decide)), fun h => e5 (h.resolve_left (by decide)), fun h => e6 (h.resolve_left (by decide)), fun h => e7 (h.resolve_left (by decide)), fun h => e8 (h.resolve_left (by decide)), fun h => e9 (h.resolve_left (by decide)), fun h => e10 (h.resolve_left (by decide)), fun h => e11 (h.resolve_left (by decide)), fun h => e12 (h.resolve_left (by decide)), fun h => e13 (h.resolve_left (by decide)), fun _ => rfl, fun h => absurd (h.resolve_left (by decide)) (fun h => hn (hcl 15 _ rfl h ⟨14, .data⟩ (by simp) rfl)), fun _ => ⟨new1 _ _, hB.size⟩⟩
      | 15, ho =>
        cases Option.some.inj ho
        have ev : a.tmps[22]?.getD undef = .pointer (some ⟨bu, 0, none⟩) := by rw [ha, e14 (hd ⟨14, .data⟩ (by simp) rfl)]; kernel_rfl
        refine wp_value (w' := w') (v := .pointer (some ⟨bu, 0, none⟩)) (by simp [execOp, ev, go_sem]) ?_
        exact ⟨v8, v9, v10, v11, v12, v13, v14, v15, v16, v17, v18, v19, v20, v21, v22, (.pointer (some ⟨bu, 0, none⟩)), bu, by rw [ha]; kernel_rfl, hB, fun h => e0 (h.resolve_left (by decide)), fun h => e1 (h.resolve_left (by decide)), fun h => e2 (h.resolve_left (by decide)), fun h => e3 (h.resolve_left (by decide)), fun h => e4 (h.resolve_left (by decide)), fun h => e5 (h.resolve_left (by decide)), fun h => e6 (h.resolve_left (by decide)), fun h => e7 (h.resolve_left (by decide)), fun h => e8 (h.resolve_left (by decide)), fun h => e9 (h.resolve_left (by decide)), fun h => e10 (h.resolve_left (by decide)), fun h => e11 (h.resolve_left (by decide)), fun h => e12 (h.resolve_left (by decide)), fun h => e13 (h.resolve_left (by decide)), fun h => e14 (h.resolve_left (by decide)), fun _ => rfl, fun h => hu (h.resolve_left (by decide))⟩
      | i + 16, ho => simp at ho
    case done =>
      rintro D a w' ⟨v8, v9, v10, v11, v12, v13, v14, v15, v16, v17, v18, v19, v20, v21, v22, v3, bu, ha, hB, e0, e1, e2, e3, e4, e5, e6, e7, e8, e9, e10, e11, e12, e13, e14, e15, hu⟩ hall
      obtain rfl := e0 (hall 0 (by decide))
      obtain rfl := e1 (hall 1 (by decide))
      obtain rfl := e2 (hall 2 (by decide))
      obtain rfl := e3 (hall 3 (by decide))
      obtain rfl := e4 (hall 4 (by decide))
      obtain rfl := e5 (hall 5 (by decide))
      obtain rfl := e6 (hall 6 (by decide))
      obtain rfl := e7 (hall 7 (by decide))
      obtain rfl := e8 (hall 8 (by decide))
      obtain rfl := e9 (hall 9 (by decide))
      obtain rfl := e10 (hall 10 (by decide))
      obtain rfl := e11 (hall 11 (by decide))
      obtain rfl := e12 (hall 12 (by decide))
      obtain rfl := e13 (hall 13 (by decide))
      obtain rfl := e14 (hall 14 (by decide))
      obtain rfl := e15 (hall 15 (by decide))
      obtain ⟨hu1, hu2⟩ := hu (hall 14 (by decide))
      clear hall hu e0 e1 e2 e3 e4 e5 e6 e7 e8 e9 e10 e11 e12 e13 e14 e15
      rw [ha]
      clear ha
      simp only [Act.put, List.setIfInBounds_toArray, List.set_cons_zero, List.set_cons_succ]
      have hb' := (hB.block b (lt_of_block hb)).trans hb
      obtain ⟨y0, y1, y2⟩ := tab_cells hb'
      have fin : ∀ w9 w2, w9.heap[bu]? = w'.heap[bu]? → KeepC w S R b t (fun g => g = bu) w9 w2 → Tb w2 (fun g => g = bu) (fun g => S g ∨ R g) bu t := fun w9 w2 e q => tab_nil (R2 := fun g => S g ∨ R g) hg h0.out hV (fun g hg => hs.lt hg) hu2 ((q.keep bu (.inl rfl)).trans (e.trans hu1))
      clear x0 x1 x2 hb hs hV hg h0
      have hrn := run_range_nilMap (P := Try.prog) w' 70 2 78 Try.underlying70
      have hnx : ∀ ty, (Instr.next (.pointer (some ⟨w'.heap.size, 0, none⟩)) false ty).run Try.prog (w'.alloc (.mapIter none 0 #[] 0)) = _ := fun ty => run_next_nilMap w' ty 0 0 #[]
      have B9 : Below w'.heap.size w' (w'.alloc (.mapIter none 0 #[] 0)) := box_below
      have fin2 : ∀ w2, KeepC w S R b t (fun g => g = bu) (w'.alloc (.mapIter none 0 #[] 0)) w2 → Tb w2 (fun g => g = bu) (fun g => S g ∨ R g) bu t := fun w2 q => fin _ w2 (B9.block bu (lt_of_block' hu1)) q
      replace fin2 : Hid _ := fin2
      clear fin
      have fin3 := below_size hB hB.size B9
      go_wp2
      generalize w'.alloc (.mapIter none 0 #[] 0) = w9 at *
      refine wp_loop_rounds 1 ?_
      rw [rounds_succ]
      go_wp2
      go_ret
      exact ⟨bu, _, rfl, fin2.out, fun g hg => by rw [hg]; exact hu2, fin3⟩
  | some mb =>
    obtain ⟨F, hM⟩ := hV
    clear h
    go_enter Try.func18, Try.ntmps18
    go_upto_region 3 with fail
    refine wp_region_inv' (fun A D a w' => ∃ v8 v9 v10 v11 v12 v13 v14 v15 v16 v17 v18 v19 v20 v21 v22 v3 mu bu, a = ((((((((((((((((A.put (some 8) v8).put (some 9) v9).put (some 10) v10).put (some 11) v11).put (some 12) v12).put (some 13) v13).put (some 14) v14).put (some 15) v15).put (some 16) v16).put (some 17) v17).put (some 18) v18).put (some 19) v19).put (some 20) v20).put (some 21) v21).put (some 22) v22).put (some 3) v3) ∧ Below w.heap.size w w' ∧ (D 0 → v8 = .pointer (some ⟨b, 0, none⟩)) ∧ (D 1 → v9 = .pointer (some ⟨b, 0, none⟩)) ∧ (D 2 → v10 = .pointer (some ⟨b, 0, none⟩)) ∧ (D 3 → v11 = .int .i64 t.first) ∧ (D 4 → v12 = .pointer (some ⟨b, 0, none⟩)) ∧ (D 5 → v13 = .pointer (some ⟨b, 0, none⟩)) ∧ (D 6 → v14 = .pointer (some ⟨b, 1, none⟩)) ∧ (D 7 → v15 = .int .i64 t.last) ∧ (D 8 → v16 = .pointer (some ⟨b, 0, none⟩)) ∧ (D 9 → v17 = .pointer (some ⟨b, 0, none⟩)) ∧ (D 10 → v18 = .pointer (some ⟨b, 2, none⟩)) ∧ (D 11 → v19 = .map (some mb)) ∧ (D 12 → v20 = .map (some mu)) ∧ (D 13 → v21 = .agg #[.int .i64 t.first, .int .i64 t.last, .map (some mu)]) ∧ (D 14 → v22 = .pointer (some ⟨bu, 0, none⟩)) ∧ (D 15 → v3 = .pointer (some ⟨bu, 0, none⟩)) ∧ (D 12 → IsMap w' mu F ∧ w.heap.size ≤ mu) ∧ (D 14 → w'.heap[bu]? = some (tabB t.first t.last (some mu)) ∧ w.heap.size ≤ bu ∧ bu ≠ mu)) (by kernel_rfl) (by kernel_rfl) ?mono ?start ?step ?done
    case mono =>
      rintro D D' a w' hD ⟨v8, v9, v10, v11, v12, v13, v14, v15, v16, v17, v18, v19, v20, v21, v22, v3, mu, bu, ha, hB, e0, e1, e2, e3, e4, e5, e6, e7, e8, e9, e10, e11, e12, e13, e14, e15, hm, hu⟩
      exact ⟨v8, v9, v10, v11, v12, v13, v14, v15, v16, v17, v18, v19, v20, v21, v22, v3, mu, bu, ha, hB, fun h => e0 ((hD 0).2 h), fun h => e1 ((hD 1).2 h), fun h => e2 ((hD 2).2 h), fun h => e3 ((hD 3).2 h), fun h => e4 ((hD 4).2 h), fun h => e5 ((hD 5).2 h), fun h => e6 ((hD 6).2 h), fun h => e7 ((hD 7).2 h), fun h => e8 ((hD 8).2 h), fun h => e9 ((hD 9).2 h), fun h => e10 ((hD 10).2 h), fun h => e11 ((hD 11).2 h), fun h => e12 ((hD 12).2 h), fun h => e13 ((hD 13).2 h), fun h => e14 ((hD 14).2 h), fun h => e15 ((hD 15).2 h), fun h => hm ((hD 12).2 h), fun h => hu ((hD 14).2 h)⟩
    case start => exact ⟨undef, undef, undef, undef, undef, undef, undef, undef, undef, undef, undef, undef, undef, undef, undef, undef, 0, 0, by kernel_rfl, (Below.refl _ _).drew, fun h => h.elim, fun h => h.elim, fun h => h.elim, fun h => h.elim, fun h => h.elim, fun h => h.elim, fun h => h.elim, fun h => h.elim, fun h => h.elim, fun h => h.elim, fun h => h.elim, fun h => h.elim, fun h => h.elim, fun h => h.elim, fun h => h.elim, fun h => h.elim, fun h => h.elim, fun h => h.elim⟩
    case step =>
      intro i o ho D a w' hI hn hcl hd
      obtain ⟨v8, v9, v10, v11, v12, v13, v14, v15, v16, v17, v18, v19, v20, v21, v22, v3, mu, bu, ha, hB, e0, e1, e2, e3, e4, e5, e6, e7, e8, e9, e10, e11, e12, e13, e14, e15, hm, hu⟩ := hI
      match i, ho with
      | 0, ho =>
        cases Option.some.inj ho
        have ev : a.tmps[0]?.getD undef = .pointer (some ⟨b, 0, none⟩) := by rw [ha]; kernel_rfl
        refine wp_value (w' := w') (v := .pointer (some ⟨b, 0, none⟩)) (by simp [execOp, ev, go_sem]) ?_
        exact ⟨(.pointer (some ⟨b, 0, none⟩)), v9, v10, v11, v12, v13, v14, v15, v16, v17, v18, v19, v20, v21, v22, v3, mu, bu, by rw [ha]; kernel_rfl, hB, fun _ => rfl, fun h => e1 (h.resolve_left (by decide)), fun h => e2 (h.resolve_left (by decide)), fun h => e3 (h.resolve_left (by decide)), fun h => e4 (h.resolve_left (by decide)), fun h => e5 (h.resolve_left (by decide)), fun h => e6 (h.resolve_left (by decide)), fun h => e7 (h.resolve_left (by decide)), fun h => e8 (h.resolve_left (by decide)), fun h => e9 (h.resolve_left (by decide)), fun h => e10 (h.resolve_left (by decide)), fun h => e11 (h.resolve_left (by decide)), fun h => e12 (h.resolve_left (by decide)), fun h => e13 (h.resolve_left (by decide)), fun h => e14 (h.resolve_left (by decide)), fun h => e15 (h.resolve_left (by decide)), fun h => hm (h.resolve_left (by decide)), fun h => hu (h.resolve_left (by decide))⟩
      | 1, ho =>
        cases Option.some.inj ho
        have ev : a.tmps[8]?.getD undef = .pointer (some ⟨b, 0, none⟩) := by rw [ha, e0 (hd ⟨0, .data⟩ (by simp) rfl)]; kernel_rfl
        refine wp_value (w' := w') (v := .pointer (some ⟨b, 0, none⟩)) (by simp [execOp, ev, go_sem]) ?_
        exact ⟨v8, (.pointer (some ⟨b, 0, none⟩)), v10, v11, v12, v13, v14, v15, v16, v17, v18, v19, v20, v21, v22, v3, mu, bu, by rw [ha]; kernel_rfl, hB, fun h => e0 (h.resolve_left (by decide)), fun _ => rfl, fun h => e2 (h.resolve_left (by decide)), fun h => e3 (h.resolve_left (by decide)), fun h => e4 (h.resolve_left (by decide)), fun h => e5 (h.resolve_left (by decide)), fun h => e6 (h.resolve_left (by decide)), fun h => e7 (h.resolve_left (by decide)), fun h => e8 (h.resolve_left (by decide)), fun h => e9 (h.resolve_left (by decide)), fun h => e10 (h.resolve_left (by decide)), fun h => e11 (h.resolve_left (by decide)), fun h => e12 (h.resolve_left (by decide)), fun h => e13 (h.resolve_left (by decide)), fun h => e14 (h.resolve_left (by decide)), fun h => e15 (h.resolve_left (by decide)), fun h => hm (h.resolve_left (by decide)), fun h => hu (h.resolve_left (by decide))⟩
      | 2, ho =>
        cases Option.some.inj ho
        have ev : a.tmps[9]?.getD undef = .pointer (some ⟨b, 0, none⟩) := by rw [ha, e1 (hd ⟨1, .data⟩ (by simp) rfl)]; kernel_rfl
        refine wp_value (w' := w') (v := .pointer (some ⟨b, 0, none⟩)) (by simp [execOp, ev, go_sem]) ?_
        exact ⟨v8, v9, (.pointer (some ⟨b, 0, none⟩)), v11, v12, v13, v14, v15, v16, v17, v18, v19, v20, v21, v22, v3, mu, bu, by rw [ha]; kernel_rfl, hB, fun h => e0 (h.resolve_left (by decide)), fun h => e1 (h.resolve_left (by decide)), fun _ => rfl, fun h => e3 (h.resolve_left (by decide)), fun h => e4 (h.resolve_left (by decide)), fun h => e5 (h.resolve_left (by decide)), fun h => e6 (h.resolve_left (by decide)), fun h => e7 (h.resolve_left (by decide)), fun h => e8 (h.resolve_left (by decide)), fun h => e9 (h.resolve_left (by decide)), fun h => e10 (h.resolve_left (by decide)), fun h => e11 (h.resolve_left (by decide)), fun h => e12 (h.resolve_left (by decide)), fun h => e13 (h.resolve_left (by decide)), fun h => e14 (h.resolve_left (by decide)), fun h => e15 (h.resolve_left (by decide)), fun h => hm (h.resolve_left (by decide)), fun h => hu (h.resolve_left (by decide))⟩
      | 3, ho =>
        cases Option.some.inj ho
        have ev : a.tmps[10]?.getD undef = .pointer (some ⟨b, 0, none⟩) := by rw [ha, e2 (hd ⟨2, .data⟩ (by simp) rfl)]; kernel_rfl
        have hc := (hB.cell (p := ⟨b, 0, none⟩) (lt_of_cell x0)).trans x0
        refine wp_value (w' := w') (v := .int .i64 t.first) (by simp [execOp, ev, go_sem, hc]) ?_
        exact ⟨v8, v9, v10, (.int .i64 t.first), v12, v13, v14, v15, v16, v17, v18, v19, v20, v21, v22, v3, mu, bu, by rw [ha]; kernel_rfl, hB, fun h => e0 (h.resolve_left (by decide)), fun h => e1 (h.resolve_left (by decide)), fun h => e2 (h.resolve_left (by decide)), fun _ => rfl, fun h => e4 (h.resolve_left (by decide)), fun h => e5 (h.resolve_left (by decide)), fun h => e6 (h.resolve_left (by decide)), fun h => e7 (h.resolve_left (by decide)), fun h => e8 (h.resolve_left (by decide)), fun h => e9 (h.resolve_left (by decide)), fun h => e10 (h.resolve_left (by decide)), fun h => e11 (h.resolve_left (by decide)), fun h => e12 (h.resolve_left (by decide)), fun h => e13 (h.resolve_left (by decide)), fun h => e14 (h.resolve_left (by decide)), fun h => e15 (h.resolve_left (by decide)), fun h => hm (h.resolve_left (by decide)), fun h => hu (h.resolve_left (by decide))⟩
      | 4, ho =>
        cases Option.some.inj ho
        have ev : a.tmps[0]?.getD undef = .pointer (some ⟨b, 0, none⟩) := by rw [ha]; kernel_rfl
        refine wp_value (w' := w') (v := .pointer (some ⟨b, 0, none⟩)) (by simp [execOp, ev, go_sem]) ?_
        exact ⟨v8, v9, v10, v11, (.pointer (some ⟨b, 0, none⟩)), v13, v14, v15, v16, v17, v18, v19, v20, v21, v22, v3, mu, bu, by rw [ha]; kernel_rfl, hB, fun h => e0 (h.resolve_left (by decide)), fun h => e1 (h.resolve_left (by decide)), fun h => e2 (h.resolve_left (by decide)), fun h => e3 (h.resolve_left (by decide)), fun _ => rfl, fun h => e5 (h.resolve_left (by decide)), fun h => e6 (h.resolve_left (by decide)), fun h => e7 (h.resolve_left (by decide)), fun h => e8 (h.resolve_left (by decide)), fun h => e9 (h.resolve_left (by decide)), fun h => e10 (h.resolve_left (by decide)), fun h => e11 (h.resolve_left (by decide)), fun h => e12 (h.resolve_left (by decide)), fun h => e13 (h.resolve_left (by decide)), fun h => e14 (h.resolve_left (by decide)), fun h => e15 (h.resolve_left (by decide)), fun h => hm (h.resolve_left (by decide)), fun h => hu (h.resolve_left (by decide))⟩
      | 5, ho =>
        cases Option.some.inj ho
        have ev : a.tmps[12]?.getD undef = .pointer (some ⟨b, 0, none⟩) := by rw [ha, e4 (hd ⟨4, .data⟩ (by simp) rfl)]; kernel_rfl
        refine wp_value (w' := w') (v := .pointer (some ⟨b, 0, none⟩)) (by simp [execOp, ev, go_sem]) ?_
        exact ⟨v8, v9, v10, v11, v12, (.pointer (some ⟨b, 0, none⟩)), v14, v15, v16, v17, v18, v19, v20, v21, v22, v3, mu, bu, by rw [ha]; kernel_rfl, hB, fun h => e0 (h.resolve_left (by decide)), fun h => e1 (h.resolve_left (by decide)), fun h => e2 (h.resolve_left (by decide)), fun h => e3 (h.resolve_left (by decide)), fun h => e4 (h.resolve_left (by decide)), fun _ => rfl, fun h => e6 (h.resolve_left (by decide)), fun h => e7 (h.resolve_left (by decide)), fun h => e8 (h.resolve_left (by decide)), fun h => e9 (h.resolve_left (by decide)), fun h => e10 (h.resolve_left (by decide)), fun h => e11 (h.resolve_left (by decide)), fun h => e12 (h.resolve_left (by decide)), fun h => e13 (h.resolve_left (by decide)), fun h => e14 (h.resolve_left (by decide)), fun h => e15 (h.resolve_left (by decide)), fun h => hm (h.resolve_left (by decide)), fun h => hu (h.resolve_left (by decide))⟩
      | 6, ho =>
        cases Option.some.inj ho
        have ev : a.tmps[13]?.getD undef = .pointer (some ⟨b, 0, none⟩) := by rw [ha, e5 (hd ⟨5, .data⟩ (by simp) rfl)]; kernel_rfl
        refine wp_value (w' := w') (v := .pointer (some ⟨b, 1, none⟩)) (by simp [execOp, ev, go_sem]) ?_
        exact ⟨v8, v9, v10, v11, v12, v13, (.pointer (some ⟨b, 1, none⟩)), v15, v16, v17, v18, v19, v20, v21, v22, v3, mu, bu, by rw [ha]; kernel_rfl, hB, fun h => e0 (h.resolve_left (by decide)), fun h => e1 (h.resolve_left (by decide)), fun h => e2 (h.resolve_left (by decide)), fun h => e3 (h.resolve_left (by decide)), fun h => e4 (h.resolve_left (by decide)), fun h => e5 (h.resolve_left (by decide)), fun _ => rfl, fun h => e7 (h.resolve_left (by decide)), fun h => e8 (h.resolve_left (by decide)), fun h => e9 (h.resolve_left (by decide)), fun h => e10 (h.resolve_left (by decide)), fun h => e11 (h.resolve_left (by decide)), fun h => e12 (h.resolve_left (by decide)), fun h => e13 (h.resolve_left (by decide)), fun h => e14 (h.resolve_left (by decide)), fun h => e15 (h.resolve_left (by decide)), fun h => hm (h.resolve_left (by decide)), fun h => hu (h.resolve_left (by decide))⟩
      | 7, ho =>
        cases Option.some.inj ho
        have ev : a.tmps[14]?.getD undef = .pointer (some ⟨b, 1, none⟩) := by rw [ha, e6 (hd ⟨6, .data⟩ (by simp) rfl)]; kernel_rfl
        have hc := (hB.cell (p := ⟨b, 1, none⟩) (lt_of_cell x1)).trans x1
        refine wp_value (w' := w') (v := .int .i64 t.last) (by simp [execOp, ev, go_sem, hc]) ?_
        exact ⟨v8, v9, v10, v11, v12, v13, v14, (.int .i64 t.last), v16, v17, v18, v19, v20, v21, v22, v3, mu, bu, by rw [ha]; kernel_rfl, hB, fun h => e0 (h.resolve_left (by decide)), fun h => e1 (h.resolve_left (by decide)), fun h => e2 (h.resolve_left (by decide)), fun h => e3 (h.resolve_left (by decide)), fun h => e4 (h.resolve_left (by decide)), fun h => e5 (h.resolve_left (by decide)), fun h => e6 (h.resolve_left (by decide)), fun _ => rfl, fun h => e8 (h.resolve_left (by decide)), fun h => e9 (h.resolve_left (by decide)), fun h => e10 (h.resolve_left (by decide)), fun h => e11 (h.resolve_left (by decide)), fun h => e12 (h.resolve_left (by decide)), fun h => e13 (h.resolve_left (by decide)), fun h => e14 (h.resolve_left (by decide)), fun h => e15 (h.resolve_left (by decide)), fun h => hm (h.resolve_left (by decide)), fun h => hu (h.resolve_left (by decide))⟩
      | 8, ho =>
        cases Option.some.inj ho
        have ev : a.tmps[0]?.getD undef = .pointer (some ⟨b, 0, none⟩) := by rw [ha]; kernel_rfl
        refine wp_value (w' := w') (v := .pointer (some ⟨b, 0, none⟩)) (by simp [execOp, ev, go_sem]) ?_
        exact ⟨v8, v9, v10, v11, v12, v13, v14, v15, (.pointer (some ⟨b, 0, none⟩)), v17, v18, v19, v20, v21, v22, v3, mu, bu, by rw [ha]; kernel_rfl, hB, fun h => e0 (h.resolve_left (by decide)), fun h => e1 (h.resolve_left (by decide)), fun h => e2 (h.resolve_left (by decide)), fun h => e3 (h.resolve_left (by decide)), fun h => e4 (h.resolve_left (by decide)), fun h => e5 (h.resolve_left (by decide)), fun h => e6 (h.resolve_left (by decide)), fun h => e7 (h.resolve_left (by decide)), fun _ => rfl, fun h => e9 (h.resolve_left (by decide)), fun h => e10 (h.resolve_left (by decide)), fun h => e11 (h.resolve_left (by decide)), fun h => e12 (h.resolve_left (by decide)), fun h => e13 (h.resolve_left (by decide)), fun h => e14 (h.resolve_left (by decide)), fun h => e15 (h.resolve_left (by decide)), fun h => hm (h.resolve_left (by decide)), fun h => hu (h.resolve_left (by decide))⟩
      | 9, ho =>
        cases Option.some.inj ho
        have ev : a.tmps[16]?.getD undef = .pointer (some ⟨b, 0, none⟩) := by rw [ha, e8 (hd ⟨8, .data⟩ (by simp) rfl)]; kernel_rfl
        refine wp_value (w' := w') (v := .pointer (some ⟨b, 0, none⟩)) (by simp [execOp, ev, go_sem]) ?_
        exact ⟨v8, v9, v10, v11, v12, v13, v14, v15, v16, (.pointer (some ⟨b, 0, none⟩)), v18, v19, v20, v21, v22, v3, mu, bu, by rw [ha]; kernel_rfl, hB, fun h => e0 (h.resolve_left (by decide)), fun h => e1 (h.resolve_left (by decide)), fun h => e2 (h.resolve_left (by decide)), fun h => e3 (h.resolve_left (by decide)), fun h => e4 (h.resolve_left (by decide)), fun h => e5 (h.resolve_left (by decide)), fun h => e6 (h.resolve_left (by decide)), fun h => e7 (h.resolve_left (by decide)), fun h => e8 (h.resolve_left (by decide)), fun _ => rfl, fun h => e10 (h.resolve_left (by decide)), fun h => e11 (h.resolve_left (by decide)), fun h => e12 (h.resolve_left (by decide)), fun h => e13 (h.resolve_left (by decide)), fun h => e14 (h.resolve_left (by decide)), fun h => e15 (h.resolve_left (by decide)), fun h => hm (h.resolve_left (by decide)), fun h => hu (h.resolve_left (by decide))⟩
      | 10, ho =>
        cases Option.some.inj ho
        have ev : a.tmps[17]?.getD undef = .pointer (some ⟨b, 0, none⟩) := by rw [ha, e9 (hd ⟨9, .data⟩ (by simp) rfl)]; kernel_rfl
        refine wp_value (w' := w') (v := .pointer (some ⟨b, 2, none⟩)) (by simp [execOp, ev, go_sem]) ?_
        exact ⟨v8, v9, v10, v11, v12, v13, v14, v15, v16, v17, (.pointer (some ⟨b, 2, none⟩)), v19, v20, v21, v22, v3, mu, bu, by rw [ha]; kernel_rfl, hB, fun h => e0 (h.resolve_left (by decide)), fun h => e1 (h.resolve_left (by decide)), fun h => e2 (h.resolve_left (by decide)), fun h => e3 (h.resolve_left (by decide)), fun h => e4 (h.resolve_left (by decide)), fun h => e5 (h.resolve_left (by decide)), fun h => e6 (h.resolve_left (by decide)), fun h => e7 (h.resolve_left (by decide)), fun h => e8 (h.resolve_left (by decide)), fun h => e9 (h.resolve_left (by decide)), fun _ => rfl, fun h => e11 (h.resolve_left (by decide)), fun h => e12 (h.resolve_left (by decide)), fun h => e13 (h.resolve_left (by decide)), fun h => e14 (h.resolve_left (by decide)), fun h => e15 (h.resolve_left (by decide)), fun h => hm (h.resolve_left (by decide)), fun h => hu (h.resolve_left (by decide))⟩
      | 11, ho =>
        cases Option.some.inj ho
        have ev : a.tmps[18]?.getD undef = .pointer (some ⟨b, 2, none⟩) := by rw [ha, e10 (hd ⟨10, .data⟩ (by simp) rfl)]; kernel_rfl
        have hc := (hB.cell (p := ⟨b, 2, none⟩) (lt_of_cell x2)).trans x2
        refine wp_value (w' := w') (v := .map (some mb)) (by simp [execOp, ev, go_sem, hc]) ?_
        exact ⟨v8, v9, v10, v11, v12, v13, v14, v15, v16, v17, v18, (.map (some mb)), v20, v21, v22, v3, mu, bu, by rw [ha]; kernel_rfl, hB, fun h => e0 (h.resolve_left (by decide)), fun h => e1 (h.resolve_left (by decide)), fun h => e2 (h.resolve_left (by decide)), fun h => e3 (h.resolve_left (by decide)), fun h => e4 (h.resolve_left (by decide)), fun h => e5 (h.resolve_left (by decide)), fun h => e6 (h.resolve_left (by decide)), fun h => e7 (h.resolve_left (by decide)), fun h => e8 (h.resolve_left (by decide)), fun h => e9 (h.resolve_left (by decide)), fun h => e10 (h.resolve_left (by decide)), fun _ => rfl, fun h => e12 (h.resolve_left (by decide)), fun h => e13 (h.resolve_left (by decide)), fun h => e14 (h.resolve_left (by decide)), fun h => e15 (h.resolve_left (by decide)), fun h => hm (h.resolve_left (by decide)), fun h => hu (h.resolve_left (by decide))⟩
      | 12, ho =>
        cases Option.some.inj ho
        have ev : a.tmps[19]?.getD undef = .map (some mb) := by rw [ha, e11 (hd ⟨11, .data⟩ (by simp) rfl)]; kernel_rfl
        refine wp_enter (f := 44) (args := #[.map (some mb)]) (by simp [execOp, ev, go_sem]) ?_
        refine (clone_isMap (hM.map.same (hB.block mb hM.map.lt))).mono ?_
        rintro e w6 ⟨rfl, hMm, HB⟩
        refine ⟨_, rfl, ?_⟩
        exact ⟨v8, v9, v10, v11, v12, v13, v14, v15, v16, v17, v18, v19, (.map (some w'.heap.size)), v21, v22, v3, w'.heap.size, bu, by rw [ha]; kernel_rfl, below_size hB hB.size HB, fun h => e0 (h.resolve_left (by decide)), fun h => e1 (h.resolve_left (by decide)), fun h => e2 (h.resolve_left (by decide)), fun h => e3 (h.resolve_left (by decide)), fun h => e4 (h.resolve_left (by decide)), fun h => e5 (h.resolve_left (by decide)), fun h => e6 (h.resolve_left (by decide)), fun h => e7 (h.resolve_left (by decide)), fun h => e8 (h.resolve_left (by decide)), fun h => e9 (h.resolve_left (by decide)), fun h => e10 (h.resolve_left (by decide)), fun h => e11 (h.resolve_left (by decide)), fun _ => rfl, fun h => absurd (h.resolve_left (by decide)) (fun h => hn (hcl 13 _ rfl h ⟨12, .data⟩ (by simp) rfl)), fun h => e14 (h.resolve_left (by decide)), fun h => e15 (h.resolve_left (by decide)), fun _ => ⟨hMm, hB.size⟩, fun h => absurd (h.resolve_left (by decide)) (fun h => (fun h => hn (hcl 13 _ rfl h ⟨12, .data⟩ (by simp) rfl)) (hcl 14 _ rfl h ⟨13, .data⟩ (by simp) rfl))⟩
      | 13, ho =>
        cases Option.some.inj ho
        have ev : a.tmps[11]?.getD undef = .int .i64 t.first := by rw [ha, e3 (hd ⟨3, .data⟩ (by simp) rfl)]; kernel_rfl
        have ev' : a.tmps[15]?.getD undef = .int .i64 t.last := by rw [ha, e7 (hd ⟨7, .data⟩ (by simp) rfl)]; kernel_rfl
        have ev'' : a.tmps[20]?.getD undef = .map (some mu) := by rw [ha, e12 (hd ⟨12, .data⟩ (by simp) rfl)]; kernel_rfl
        refine wp_value (w' := w') (v := .agg #[.int .i64 t.first, .int .i64 t.last, .map (some mu)]) (by simp [execOp, ev, ev', ev'', go_sem]) ?_
        exact ⟨v8, v9, v10, v11, v12, v13, v14, v15, v16, v17, v18, v19, v20, (.agg #[.int .i64 t.first, .int .i64 t.last, .map (some mu)]), v22, v3, mu, bu, by rw [ha]; kernel_rfl, hB, fun h => e0 (h.resolve_left (by decide)), fun h => e1 (h.resolve_left (by decide)), fun h => e2 (h.resolve_left (by decide)), fun h => e3 (h.resolve_left (by decide)), fun h => e4 (h.resolve_left (by decide)), fun h => e5 (h.resolve_left (by decide)), fun h => e6 (h.resolve_left (by decide)), fun h => e7 (h.resolve_left (by decide)), fun h => e8 (h.resolve_left (by decide)), fun h => e9 (h.resolve_left (by decide)), fun h => e10 (h.resolve_left (by decide)), fun h => e11 (h.resolve_left (by decide)), fun h => e12 (h.resolve_left (by decide)), fun _ => rfl, fun h => e14 (h.resolve_left (by decide)), fun h => e15 (h.resolve_left (by decide)), fun h => hm (h.resolve_left (by decide)), fun h => hu (h.resolve_left (by decide))⟩
      | 14, ho =>
        cases Option.some.inj ho
        have ev : a.tmps[21]?.getD undef = .agg #[.int .i64 t.first, .int .i64 t.last, .map (some mu)] := by rw [ha, e13 (hd ⟨13, .data⟩ (by simp) rfl)]; kernel_rfl
        refine wp_value (w' := w'.alloc (.cells #[.int .i64 t.first, .int .i64 t.last, .map (some mu)] 72)) (v := .pointer (some ⟨w'.heap.size, 0, none⟩)) (by simp [execOp, ev, go_sem]) ?_
        exact ⟨v8, v9, v10, v11, v12, v13, v14, v15, v16, v17, v18, v19, v20, v21, (.pointer (some ⟨w'.heap.size, 0, none⟩)), v3, mu, w'.heap.size, by rw [ha]; kernel_rfl, hB.alloc hB.size _, fun h => e0 (h.resolve_left (by decide)), fun h => e1 (h.resolve_left (by decide)), fun h => e2 (h.resolve_left (by decide)), fun h => e3 (h.resolve_left (by decide)), fun h => e4 (h.resolve_left (by decide)), fun h => e5 (h.resolve_left (by decide)), fun h => e6 (h.resolve_left (by decide)), fun h => e7 (h.resolve_left (by decide)), fun h => e8 (h.resolve_left (by decide)), fun h => e9 (h.resolve_left (by decide)), fun h => e10 (h.resolve_left (by decide)), fun h => e11 (h.resolve_left (by decide)), fun h => e12 (h.resolve_left (by decide)), fun h => e13 (h.resolve_left (by decide)), fun _ => rfl, fun h => absurd (h.resolve_left (by decide)) (fun h => hn (hcl 15 _ rfl h ⟨14, .data⟩ (by simp) rfl)), fun h => ⟨(hm (h.resolve_left (by decide))).1.same (Below.heap_alloc _ _ _ (hm (h.resolve_left (by decide))).1.lt), (hm (h.resolve_left (by decide))).2⟩, fun _ => ⟨new1 _ _, hB.size, Nat.ne_of_gt (hm (hcl 13 _ rfl (hd ⟨13, .data⟩ (by simp) rfl) ⟨12, .data⟩ (by simp) rfl)).1.lt⟩⟩
      | 15, ho =>
        cases Option.some.inj ho
        have ev : a.tmps[22]?.getD undef = .pointer (some ⟨bu, 0, none⟩) := by rw [ha, e14 (hd ⟨14, .data⟩ (by simp) rfl)]; kernel_rfl
        refine wp_value (w' := w') (v := .pointer (some ⟨bu, 0, none⟩)) (by simp [execOp, ev, go_sem]) ?_
        exact ⟨v8, v9, v10, v11, v12, v13, v14, v15, v16, v17, v18, v19, v20, v21, v22, (.pointer (some ⟨bu, 0, none⟩)), mu, bu, by rw [ha]; kernel_rfl, hB, fun h => e0 (h.resolve_left (by decide)), fun h => e1 (h.resolve_left (by decide)), fun h => e2 (h.resolve_left (by decide)), fun h => e3 (h.resolve_left (by decide)), fun h => e4 (h.resolve_left (by decide)), fun h => e5 (h.resolve_left (by decide)), fun h => e6 (h.resolve_left (by decide)), fun h => e7 (h.resolve_left (by decide)), fun h => e8 (h.resolve_left (by decide)), fun h => e9 (h.resolve_left (by decide)), fun h => e10 (h.resolve_left (by decide)), fun h => e11 (h.resolve_left (by decide)), fun h => e12 (h.resolve_left (by decide)), fun h => e13 (h.resolve_left (by decide)), fun h => e14 (h.resolve_left (by decide)), fun _ => rfl, fun h => hm (h.resolve_left (by decide)), fun h => hu (h.resolve_left (by decide))⟩
      | i + 16, ho => simp at ho
    case done =>
      rintro D a w' ⟨v8, v9, v10, v11, v12, v13, v14, v15, v16, v17, v18, v19, v20, v21, v22, v3, mu, bu, ha, hB, e0, e1, e2, e3, e4, e5, e6, e7, e8, e9, e10, e11, e12, e13, e14, e15, hm, hu⟩ hall
      obtain rfl := e0 (hall 0 (by decide))
      obtain rfl := e1 (hall 1 (by decide))
      obtain rfl := e2 (hall 2 (by decide))
      obtain rfl := e3 (hall 3 (by decide))
      obtain rfl := e4 (hall 4 (by decide))
      obtain rfl := e5 (hall 5 (by decide))
      obtain rfl := e6 (hall 6 (by decide))
      obtain rfl := e7 (hall 7 (by decide))
      obtain rfl := e8 (hall 8 (by decide))
      obtain rfl := e9 (hall 9 (by decide))
      obtain rfl := e10 (hall 10 (by decide))
      obtain rfl := e11 (hall 11 (by decide))
      obtain rfl := e12 (hall 12 (by decide))
      obtain rfl := e13 (hall 13 (by decide))
      obtain rfl := e14 (hall 14 (by decide))
      obtain rfl := e15 (hall 15 (by decide))
      obtain ⟨hm1, hm2⟩ := hm (hall 12 (by decide))
      obtain ⟨hu1, hu2, hu3⟩ := hu (hall 14 (by decide))
      clear hall hu hm e0 e1 e2 e3 e4 e5 e6 e7 e8 e9 e10 e11 e12 e13 e14 e15
      rw [ha]
      clear ha
      simp only [Act.put, List.setIfInBounds_toArray, List.set_cons_zero, List.set_cons_succ]
      have hb' := (hB.block b (lt_of_block hb)).trans hb
      obtain ⟨z0, z1, z2⟩ := tab_cells hb'
      have hMb := hM.map.same (hB.block mb hM.map.lt)
      have lmu := hm1.lt
      have lbu := lt_of_block' hu1
      have lmb := hM.map.lt
      go_wp2_with (first | (at_range; refine wpList_range_i _ rfl _ 70 rfl _ _ Try.underlying70 mb F rfl hMb ?_; intro w3 cnt0 hr0 hB3 hs3) | fail)
      go_frame
      obtain ⟨r, hr⟩ : ∃ q, q = w'.heap.size := ⟨_, rfl⟩
      rw [← hr] at hr0 ⊢
      have hrl : w.heap.size ≤ r := by rw [hr]; exact hB.size
      have dr1 : r ≠ mu := by omega
      have dr2 : r ≠ bu := by omega
      have dm : mb ≠ mu := by omega
      have s0 : IsMap w3 mu F := hm1.same (hB3.block mu lmu)
      have s1 : w3.heap[bu]? = some (tabB t.first t.last (some mu)) := (hB3.block bu lbu).trans hu1
      have s2 : Below w.heap.size w w3 := below_size hB hB.size hB3
      clear x0 x1 x2 z0 z1 z2 hMb hm1 hu1 hB hB3 hs3 hb' lmu lbu lmb hr
      go_loopw [4] (fun _ wr => ∃ left cnt G, Rg wr mb r F left cnt ∧ IsMap wr mu G ∧ Clp F G left ∧ Below w.heap.size w wr ∧ wr.heap[bu]? = some (tabB t.first t.last (some mu))) (fun _ wr => wr.rangeLeft mb r)
      case atStart => exact ⟨_, _, F, hr0, s0, Clp.start F, s2, s1⟩
      case round =>
        clear hr0 s0 s1 s2
        obtain ⟨left, cnt, G, hrg, hMu, hC, hBw, hblk⟩ := hrel
        go_wp2_with (first | (at_next; refine wpList_next_i _ rfl _ rfl mb r F left cnt rfl hrg ?_ ?_) | fail)
        · intro hdone
          go_wp2
          go_ret
          refine ⟨bu, _, rfl, hC.tabK hdone hM hs hg h0.out hMu hm2 hu2 hblk hBw hb, fun g hg => ?_, hBw⟩
          rcases hg with rfl | rfl
          · exact hu2
          · exact hm2
        · intro k v w4 cnt4 hFk hrg4 hlt4 hg4 hs4 hen
          obtain ⟨sv, rfl, hrow⟩ := hM.yes k v hFk
          obtain ⟨va, vn, vc, rfl, hvl⟩ := hrow.shape
          have hvn : vn ≤ vc := hrow.isC.room
          replace hFk : Hid _ := hFk
          replace hs4 : Hid _ := hs4
          clear hvl
          have E6 := new1 w4 (.cells #[.int .i64 (t.m k).chg, .slice va vn vc] 78 (0, 0))
          have B6 : Below w4.heap.size w4 (w4.alloc (.cells #[.int .i64 (t.m k).chg, .slice va vn vc] 78 (0, 0))) := box_below
          go_upto_region 7 with fail
          generalize w4.alloc (.cells #[.int .i64 (t.m k).chg, .slice va vn vc] 78) = wq at *
          obtain ⟨bp, hbp⟩ : ∃ q, q = w4.heap.size := ⟨_, rfl⟩
          rw [← hbp] at E6 ⊢
          clear hbp
          have p0 : wq.cell? ⟨bp, 0, none⟩ = some (.int .i64 (t.m k).chg) := by rw [cell_of_row wq bp 0 _ _ _ E6]; rfl
          have p1 : wq.cell? ⟨bp, 1, none⟩ = some (.slice va vn vc) := by rw [cell_of_row wq bp 1 _ _ _ E6]; rfl
          have kq : ∀ q, q < wr.heap.size → q ≠ r → wq.heap[q]? = wr.heap[q]? := fun q hq hn => (B6.block q (by rw [hs4.out]; exact hq)).trans (hg4.block q hq (fun e => hn (Option.some.inj e)))
          have lbu : bu < wr.heap.size := lt_of_block' hblk
          have hblkq : wq.heap[bu]? = some (tabB t.first t.last (some mu)) := (kq bu lbu (fun e => dr2 e.symm)).trans hblk
          obtain ⟨y0, y1, y2⟩ := tab_cells hblkq
          have hMuq : IsMap wq mu G := hMu.same (kq mu hMu.lt (fun e => dr1 e.symm))
          have hrgq : Rg wq mb r F (fun x => left x && !decide (x = k)) cnt4 := hrg4.same (B6.block mb hrg4.map.lt) (B6.block r hrg4.lt)
          have hBq : Below w.heap.size w wq := ⟨B6.os.trans (hg4.os.trans hBw.os), B6.tape.trans (hg4.tape.trans hBw.tape), B6.output.trans (hg4.output.trans hBw.output), Nat.le_trans hBw.size (Nat.le_trans hg4.size B6.size), fun q hq => (kq q (Nat.lt_of_lt_of_le hq hBw.size) (by omega)).trans (hBw.block q hq)⟩
          replace hMu := hMuq
          clear hMuq kq hrg4 hBw hblk hg4 hen B6 hs4 lbu
          refine wp_region_inv' (fun A D a w' => ∃ v33 v34 v35 v36 v37 v38 v39, a = (((((((A.put (some 33) v33).put (some 34) v34).put (some 35) v35).put (some 36) v36).put (some 37) v37).put (some 38) v38).put (some 39) v39) ∧ (D 7 ∨ Below wq.heap.size wq w') ∧ (D 0 → v33 = .pointer (some ⟨bu, 0, none⟩)) ∧ (D 1 → v34 = .pointer (some ⟨bu, 0, none⟩)) ∧ (D 2 → v35 = .pointer (some ⟨bu, 2, none⟩)) ∧ (D 3 → v36 = .map (some mu)) ∧ (D 4 → v37 = .int .i64 k) ∧ (D 5 → v38 = .agg #[.int .i64 (t.m k).chg, .slice va vn vc]) ∧ (D 6 → v39 = .agg #[.int .i64 (t.m k).chg, .slice va vn vn]) ∧ (D 7 → ∃ wp : World, Below wq.heap.size wq wp ∧ IsMap w' mu (fun i => if i = k then some (.agg #[.int .i64 (t.m k).chg, .slice va vn vn]) else G i) ∧ wp.grownBy w' (some mu))) (by kernel_rfl) (by kernel_rfl) ?mono ?start ?step ?done
          case mono =>
            rintro D D' a w' hD ⟨v33, v34, v35, v36, v37, v38, v39, ha, hB, e0, e1, e2, e3, e4, e5, e6, hQ⟩
            exact ⟨v33, v34, v35, v36, v37, v38, v39, ha, hB.imp_left (hD 7).1, fun h => e0 ((hD 0).2 h), fun h => e1 ((hD 1).2 h), fun h => e2 ((hD 2).2 h), fun h => e3 ((hD 3).2 h), fun h => e4 ((hD 4).2 h), fun h => e5 ((hD 5).2 h), fun h => e6 ((hD 6).2 h), fun h => hQ ((hD 7).2 h)⟩
          case start => exact ⟨u33, u34, u35, u36, u37, u38, u39, by kernel_rfl, .inr ((Below.refl _ _).drew), fun h => h.elim, fun h => h.elim, fun h => h.elim, fun h => h.elim, fun h => h.elim, fun h => h.elim, fun h => h.elim, fun h => h.elim⟩
          case step =>
            intro i o ho D a w' hI hn hcl hd
            obtain ⟨v33, v34, v35, v36, v37, v38, v39, ha, hB, e0, e1, e2, e3, e4, e5, e6, hQ⟩ := hI
            match i, ho with
            | 0, ho =>
              cases Option.some.inj ho
              have ev : a.tmps[3]?.getD undef = .pointer (some ⟨bu, 0, none⟩) := by rw [ha]; kernel_rfl
              refine wp_value (w' := w') (v := .pointer (some ⟨bu, 0, none⟩)) (by simp [execOp, ev, go_sem]) ?_
              exact ⟨(.pointer (some ⟨bu, 0, none⟩)), v34, v35, v36, v37, v38, v39, by rw [ha]; kernel_rfl, hB.imp_left .inr, fun _ => rfl, fun h => e1 (h.resolve_left (by decide)), fun h => e2 (h.resolve_left (by decide)), fun h => e3 (h.resolve_left (by decide)), fun h => e4 (h.resolve_left (by decide)), fun h => e5 (h.resolve_left (by decide)), fun h => e6 (h.resolve_left (by decide)), fun h => hQ (h.resolve_left (by decide))⟩
            | 1, ho =>
              cases Option.some.inj ho
              have ev : a.tmps[33]?.getD undef = .pointer (some ⟨bu, 0, none⟩) := by rw [ha, e0 (hd ⟨0, .data⟩ (by simp) rfl)]; kernel_rfl
              refine wp_value (w' := w') (v := .pointer (some ⟨bu, 0, none⟩)) (by simp [execOp, ev, go_sem]) ?_
              exact ⟨v33, (.pointer (some ⟨bu, 0, none⟩)), v35, v36, v37, v38, v39, by rw [ha]; kernel_rfl, hB.imp_left .inr, fun h => e0 (h.resolve_left (by decide)), fun _ => rfl, fun h => e2 (h.resolve_left (by decide)), fun h => e3 (h.resolve_left (by decide)), fun h => e4 (h.resolve_left (by decide)), fun h => e5 (h.resolve_left (by decide)), fun h => e6 (h.resolve_left (by decide)), fun h => hQ (h.resolve_left (by decide))⟩
            | 2, ho =>
              cases Option.some.inj ho
              have ev : a.tmps[34]?.getD undef = .pointer (some ⟨bu, 0, none⟩) := by rw [ha, e1 (hd ⟨1, .data⟩ (by simp) rfl)]; kernel_rfl
              refine wp_value (w' := w') (v := .pointer (some ⟨bu, 2, none⟩)) (by simp [execOp, ev, go_sem]) ?_
              exact ⟨v33, v34, (.pointer (some ⟨bu, 2, none⟩)), v36, v37, v38, v39, by rw [ha]; kernel_rfl, hB.imp_left .inr, fun h => e0 (h.resolve_left (by decide)), fun h => e1 (h.resolve_left (by decide)), fun _ => rfl, fun h => e3 (h.resolve_left (by decide)), fun h => e4 (h.resolve_left (by decide)), fun h => e5 (h.resolve_left (by decide)), fun h => e6 (h.resolve_left (by decide)), fun h => hQ (h.resolve_left (by decide))⟩
            | 3, ho =>
              cases Option.some.inj ho
              have ev : a.tmps[35]?.getD undef = .pointer (some ⟨bu, 2, none⟩) := by rw [ha, e2 (hd ⟨2, .data⟩ (by simp) rfl)]; kernel_rfl
              have hb := hB.resolve_left (fun h => hn (hcl 7 _ rfl h ⟨3, .data⟩ (by simp) rfl))
              have hc := (hb.cell (p := ⟨bu, 2, none⟩) (lt_of_cell y2)).trans y2
              refine wp_value (w' := w') (v := .map (some mu)) (by simp [execOp, ev, go_sem, hc]) ?_
              exact ⟨v33, v34, v35, (.map (some mu)), v37, v38, v39, by rw [ha]; kernel_rfl, hB.imp_left .inr, fun h => e0 (h.resolve_left (by decide)), fun h => e1 (h.resolve_left (by decide)), fun h => e2 (h.resolve_left (by decide)), fun _ => rfl, fun h => e4 (h.resolve_left (by decide)), fun h => e5 (h.resolve_left (by decide)), fun h => e6 (h.resolve_left (by decide)), fun h => hQ (h.resolve_left (by decide))⟩
            | 4, ho =>
              cases Option.some.inj ho
              have ev : a.tmps[4]?.getD undef = .int .i64 k := by rw [ha]; kernel_rfl
              refine wp_value (w' := w') (v := .int .i64 k) (by simp [execOp, ev, go_sem]) ?_
              exact ⟨v33, v34, v35, v36, (.int .i64 k), v38, v39, by rw [ha]; kernel_rfl, hB.imp_left .inr, fun h => e0 (h.resolve_left (by decide)), fun h => e1 (h.resolve_left (by decide)), fun h => e2 (h.resolve_left (by decide)), fun h => e3 (h.resolve_left (by decide)), fun _ => rfl, fun h => e5 (h.resolve_left (by decide)), fun h => e6 (h.resolve_left (by decide)), fun h => hQ (h.resolve_left (by decide))⟩
            | 5, ho =>
              cases Option.some.inj ho
              have ev : a.tmps[5]?.getD undef = .pointer (some ⟨bp, 0, none⟩) := by rw [ha]; kernel_rfl
              have hb := hB.resolve_left (fun h => (fun h => hn (hcl 6 _ rfl h ⟨5, .data⟩ (by simp) rfl)) (hcl 7 _ rfl h ⟨6, .data⟩ (by simp) rfl))
              have z0 := (hb.cell (p := ⟨bp, 0, none⟩) (lt_of_cell p0)).trans p0
              have z1 := (hb.cell (p := ⟨bp, 1, none⟩) (lt_of_cell p1)).trans p1
              refine wp_value (w' := w') (v := .agg #[.int .i64 (t.m k).chg, .slice va vn vc]) (by simp [execOp, ev, go_sem, z0, z1]) ?_
              exact ⟨v33, v34, v35, v36, v37, (.agg #[.int .i64 (t.m k).chg, .slice va vn vc]), v39, by rw [ha]; kernel_rfl, hB.imp_left .inr, fun h => e0 (h.resolve_left (by decide)), fun h => e1 (h.resolve_left (by decide)), fun h => e2 (h.resolve_left (by decide)), fun h => e3 (h.resolve_left (by decide)), fun h => e4 (h.resolve_left (by decide)), fun _ => rfl, fun h => e6 (h.resolve_left (by decide)), fun h => hQ (h.resolve_left (by decide))⟩
            | 6, ho =>
              cases Option.some.inj ho
              have ev : a.tmps[38]?.getD undef = .agg #[.int .i64 (t.m k).chg, .slice va vn vc] := by rw [ha, e5 (hd ⟨5, .data⟩ (by simp) rfl)]; kernel_rfl
              refine wp_enter (f := 45) (args := #[.agg #[.int .i64 (t.m k).chg, .slice va vn vc]]) (by simp [execOp, ev, go_sem]) ?_
              refine (cut_any (t.m k).chg va vn vc _ hvn).mono ?_
              rintro e w6 ⟨rfl, HB⟩
              refine ⟨_, rfl, ?_⟩
              exact ⟨v33, v34, v35, v36, v37, v38, (.agg #[.int .i64 (t.m k).chg, .slice va vn vn]), by rw [ha]; kernel_rfl, hB.imp .inr (fun h => below_size h h.size HB), fun h => e0 (h.resolve_left (by decide)), fun h => e1 (h.resolve_left (by decide)), fun h => e2 (h.resolve_left (by decide)), fun h => e3 (h.resolve_left (by decide)), fun h => e4 (h.resolve_left (by decide)), fun h => e5 (h.resolve_left (by decide)), fun _ => rfl, fun h => absurd (h.resolve_left (by decide)) (fun h => hn (hcl 7 _ rfl h ⟨6, .data⟩ (by simp) rfl))⟩
            | 7, ho =>
              cases Option.some.inj ho
              have ev : a.tmps[36]?.getD undef = .map (some mu) := by rw [ha, e3 (hd ⟨3, .data⟩ (by simp) rfl)]; kernel_rfl
              have ev' : a.tmps[37]?.getD undef = .int .i64 k := by rw [ha, e4 (hd ⟨4, .data⟩ (by simp) rfl)]; kernel_rfl
              have ev'' : a.tmps[39]?.getD undef = .agg #[.int .i64 (t.m k).chg, .slice va vn vn] := by rw [ha, e6 (hd ⟨6, .data⟩ (by simp) rfl)]; kernel_rfl
              have hb := hB.resolve_left hn
              obtain ⟨w7, hr7, M7, g7⟩ := (hMu.same (hb.block mu hMu.lt)).update (P := Try.prog) Try.underlying70 Try.underlying2 k (.agg #[.int .i64 (t.m k).chg, .slice va vn vn])
              refine wp_skip (w' := w7) (by simp [execOp, ev, ev', ev'', go_sem, hr7]) ?_
              exact ⟨v33, v34, v35, v36, v37, v38, v39, by rw [ha]; kernel_rfl, .inl (.inl rfl), fun h => e0 (h.resolve_left (by decide)), fun h => e1 (h.resolve_left (by decide)), fun h => e2 (h.resolve_left (by decide)), fun h => e3 (h.resolve_left (by decide)), fun h => e4 (h.resolve_left (by decide)), fun h => e5 (h.resolve_left (by decide)), fun h => e6 (h.resolve_left (by decide)), fun _ => ⟨w', hb, M7, g7⟩⟩
            | i + 8, ho => simp at ho
          case done =>
            rintro D a w' ⟨v33, v34, v35, v36, v37, v38, v39, ha, hB, e0, e1, e2, e3, e4, e5, e6, hQ⟩ hall
            obtain rfl := e0 (hall 0 (by decide))
            obtain rfl := e1 (hall 1 (by decide))
            obtain rfl := e2 (hall 2 (by decide))
            obtain rfl := e3 (hall 3 (by decide))
            obtain rfl := e4 (hall 4 (by decide))
            obtain rfl := e5 (hall 5 (by decide))
            obtain rfl := e6 (hall 6 (by decide))
            obtain ⟨wp, hbp, M7, g7⟩ := hQ (hall 7 (by decide))
            clear hQ hB hall e0 e1 e2 e3 e4 e5 e6
            rw [ha]
            clear ha
            simp only [Act.put, List.setIfInBounds_toArray, List.set_cons_zero, List.set_cons_succ]
            have kp : ∀ q, q < wq.heap.size → q ≠ mu → w'.heap[q]? = wq.heap[q]? := fun q hq hn => (g7.block q (Nat.lt_of_lt_of_le hq hbp.size) (fun e => hn (Option.some.inj e))).trans (hbp.block q hq)
            have n1 : Rg w' mb r F (fun x => left x && !decide (x = k)) cnt4 := hrgq.same (kp mb hrgq.map.lt dm) (kp r hrgq.lt dr1)
            have n2 : w'.heap[bu]? = some (tabB t.first t.last (some mu)) := (kp bu (lt_of_block' hblkq) hu3).trans hblkq
            have n3 : Below w.heap.size w w' := ⟨g7.os.trans (hbp.os.trans hBq.os), g7.tape.trans (hbp.tape.trans hBq.tape), g7.output.trans (hbp.output.trans hBq.output), Nat.le_trans hBq.size (Nat.le_trans hbp.size g7.size), fun q hq => (kp q (Nat.lt_of_lt_of_le hq hBq.size) (by omega)).trans (hBq.block q hq)⟩
            have n4 := hC.step hFk.out
            have n5 : w'.rangeLeft mb r = cnt4 := n1.left_eq
            have n6 : wr.rangeLeft mb r = cnt := hrg.left_eq
            clear hrgq hblkq hBq kp hbp g7 y0 y1 y2 p0 p1 E6 hrow
            go_wp2
            go_roundw
            case rel => exact ⟨_, _, _, n1, M7, n4, n3, n2⟩
            case measure => rw [n5, n6]; omega
end Go.Proofs.Ytajdelinfkodbaa
