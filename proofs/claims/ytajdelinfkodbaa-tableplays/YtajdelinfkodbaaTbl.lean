/- Tables: what they say, and how they lie in memory. -/
import Derived.Test.YtajdelinfkodbaaWth
import Derived.Test.YtajdelinfkodbaaKey
namespace Go.Proofs.Ytajdelinfkodbaa
open Go.RowKit
set_option maxRecDepth 100000
/-- An object's past: when it was changed last, and its versions (oop is the commit). -/
structure Past where
  chg : Int
  vs : List Ch
structure Tab where
  first : Int
  last : Int
  m : Int → Past
/-- One change more. -/
def putM (c : Int) (x : Ch) (m : Int → Past) : Int → Past := fun k => if k = x.oop then ⟨c, withL c x (m k).vs⟩ else m k
/-- All changes of a commit. -/
def applM (c : Int) : List Ch → (Int → Past) → (Int → Past)
  | [], m => m
  | x :: r, m => applM c r (putM c x m)
theorem applM_snoc (c : Int) (x : Ch) : ∀ (xs : List Ch) (m : Int → Past), applM c (xs ++ [x]) m = putM c x (applM c xs m)
  | [], _ => rfl
  | _ :: r, m => by simp only [List.cons_append, applM]; exact applM_snoc c x r _
/-- What holds of all pasts up to a commit. -/
structure GoodM (m : Int → Past) (L : Int) : Prop where
  chg : ∀ k, 0 ≤ (m k).chg ∧ (m k).chg ≤ L
  rise : ∀ k, RiseC (m k).vs
  ver : ∀ k x, x ∈ (m k).vs → 1 ≤ x.oop ∧ x.oop ≤ (m k).chg ∧ okCh x.gone x.cls x.vs x.bs = true
  dom : ∀ k, (m k).chg ≠ 0 → 1 ≤ k ∧ k ≤ 4096
theorem rise_snoc {xs : List Ch} {y : Ch} (h : RiseC xs) (hy : ∀ x ∈ xs, x.oop < y.oop) : RiseC (xs ++ [y]) := by
  intro i j x z hij hx hz
  have hj := (List.getElem?_eq_some_iff.1 hz).1
  rw [List.length_append, List.length_singleton] at hj
  rcases Nat.lt_or_ge j xs.length with hl | hl
  · rw [List.getElem?_append_left hl] at hz
    rw [List.getElem?_append_left (by omega)] at hx
    exact h i j x z hij hx hz
  · have : j = xs.length := by omega
    subst this
    rw [List.getElem?_append_right (Nat.le_refl _), Nat.sub_self] at hz
    cases hz
    rw [List.getElem?_append_left hij] at hx
    exact hy x (List.mem_of_getElem? hx)
theorem rise_nodup : ∀ {xs : List Ch}, RiseC xs → (xs.map Ch.oop).Nodup
  | [], _ => by simp
  | x :: r, h => by
    rw [List.map_cons, List.nodup_cons]
    refine ⟨fun hm => ?_, rise_nodup (fun i j a b hij ha hb => h (i + 1) (j + 1) a b (by omega) (by simpa using ha) (by simpa using hb))⟩
    obtain ⟨y, hy, e⟩ := List.mem_map.1 hm
    obtain ⟨j, hj⟩ := List.mem_iff_getElem?.1 hy
    have := h 0 (j + 1) x y (by omega) rfl (by simpa using hj)
    omega
theorem GoodM.len {m : Int → Past} {L : Int} (h : GoodM m L) (hL : L ≤ 1099511627776) (k : Int) : (m k).vs.length ≤ 1099511627776 := by
  have h1 := few 1099511627776 _ (rise_nodup (h.rise k)) (fun z hz => by
    obtain ⟨x, hx, rfl⟩ := List.mem_map.1 hz
    have h2 := h.ver k x hx
    have h3 := h.chg k
    exact ⟨h2.1, by omega⟩)
  simpa using h1
theorem GoodM.put {m : Int → Past} {L c : Int} {x : Ch} (h : GoodM m L) (hc : 0 < c) (hL : L ≤ c) (hx : (m x.oop).chg < c) (ho : 1 ≤ x.oop ∧ x.oop ≤ 4096) (hk : okCh x.gone x.cls x.vs x.bs = true) : GoodM (putM c x m) c := by
  refine ⟨fun k => ?_, fun k => ?_, fun k y hy => ?_, fun k hn => ?_⟩
  · unfold putM
    split
    · exact ⟨by simp; omega, by simp⟩
    · have := h.chg k; omega
  · unfold putM
    split
    · rename_i e
      show RiseC (withL c x (m k).vs)
      unfold withL
      split
      · refine rise_snoc (h.rise k) (fun y hy => ?_)
        have h1 := h.ver k y hy
        rw [e] at h1
        show y.oop < c
        omega
      · exact h.rise k
    · exact h.rise k
  · unfold putM at hy ⊢
    split at hy
    · rename_i e
      rw [if_pos e]
      simp only at hy ⊢
      unfold withL at hy
      have hold : ∀ y, y ∈ (m k).vs → 1 ≤ y.oop ∧ y.oop ≤ c ∧ okCh y.gone y.cls y.vs y.bs = true := fun y hy => by
        have h1 := h.ver k y hy
        have h2 := h.chg k
        exact ⟨h1.1, by omega, h1.2.2⟩
      split at hy
      · rcases List.mem_append.1 hy with hy | hy
        · exact hold y hy
        · rw [List.mem_singleton] at hy
          subst hy
          exact ⟨by simp; omega, by simp, hk⟩
      · exact hold y hy
    · rename_i e
      rw [if_neg e]
      exact h.ver k y hy
  · unfold putM at hn
    split at hn
    · rename_i e; rw [e]; exact ho
    · exact h.dom k hn
theorem okL_cons {l : Int} {x : Ch} {r : List Ch} (h : okL l (x :: r) = true) : l < x.oop ∧ x.oop ≤ 4096 ∧ okCh x.gone x.cls x.vs x.bs = true ∧ okL x.oop r = true := by
  by_cases hc : l < x.oop ∧ x.oop ≤ 4096 ∧ okCh x.gone x.cls x.vs x.bs = true
  · have := okL_yes (xs := x :: r) (k := 0) rfl hc.1 hc.2.1 hc.2.2
    simp only [List.drop_zero] at this
    rw [this] at h
    exact ⟨hc.1, hc.2.1, hc.2.2, by simpa using h⟩
  · have := okL_no (xs := x :: r) (k := 0) rfl hc
    simp only [List.drop_zero] at this
    rw [this] at h
    cases h
theorem GoodM.appl {c : Int} (hc : 0 < c) : ∀ (xs : List Ch) (m : Int → Past) (L l : Int), GoodM m L → L ≤ c → 0 ≤ l → okL l xs = true → (∀ k, l < k → (m k).chg < c) → GoodM (applM c xs m) (if xs = [] then L else c)
  | [], m, L, l, h, _, _, _, _ => by simpa [applM] using h
  | x :: r, m, L, l, h, hL, hl, hok, hb => by
    obtain ⟨h1, h2, h3, h4⟩ := okL_cons hok
    have g := h.put hc hL (hb x.oop h1) ⟨by omega, h2⟩ h3
    have := GoodM.appl hc r (putM c x m) c x.oop g (Int.le_refl _) (by omega) h4 (fun k hk => by
      unfold putM
      rw [if_neg (by omega)]
      exact hb k (by omega))
    simp only [applM]
    rw [if_neg (by simp)]
    split at this <;> exact this
theorem okL_take : ∀ (xs : List Ch) (l : Int) (i : Nat), okL l xs = true → okL l (xs.take i) = true
  | [], l, i, _ => by simp; exact (by unfold okL; rfl)
  | x :: r, l, 0, _ => by simp; exact (by unfold okL; rfl)
  | x :: r, l, i + 1, h => by
    obtain ⟨h1, h2, h3, h4⟩ := okL_cons h
    have e := okL_yes (xs := x :: r.take i) (k := 0) rfl h1 h2 h3
    simp only [List.drop_zero] at e
    rw [List.take_succ_cons, e]
    simpa using okL_take r x.oop i h4
theorem okL_at : ∀ (xs : List Ch) (l : Int) (i : Nat) (x : Ch), okL l xs = true → xs[i]? = some x → l < x.oop ∧ x.oop ≤ 4096 ∧ okCh x.gone x.cls x.vs x.bs = true
  | [], _, _, _, _, h => by cases h
  | y :: r, l, 0, x, h, hx => by
    cases hx
    obtain ⟨h1, h2, h3, _⟩ := okL_cons h
    exact ⟨h1, h2, h3⟩
  | y :: r, l, i + 1, x, h, hx => by
    obtain ⟨h1, h2, h3, h4⟩ := okL_cons h
    have := okL_at r y.oop i x h4 (by simpa using hx)
    exact ⟨by omega, this.2⟩
theorem GoodM.up {m : Int → Past} {L L' : Int} (h : GoodM m L) (hL : L ≤ L') : GoodM m L' := ⟨fun k => by have := h.chg k; omega, h.rise, h.ver, h.dom⟩
theorem GoodM.applK {m : Int → Past} {L c : Int} {xs : List Ch} (h : GoodM m L) (h0 : 0 ≤ L) (hL : L < c) (hok : okL 0 xs = true) (i : Nat) : GoodM (applM c (xs.take i) m) c := by
  have := GoodM.appl (c := c) (by omega) (xs.take i) m L 0 h (by omega) (Int.le_refl _) (okL_take xs 0 i hok) (fun k _ => by have := h.chg k; omega)
  split at this
  · exact this.up (by omega)
  · exact this
/-- Which blocks are a table's own (they may turn), and which are read alone. -/
structure Sets (w : World) (S R : Nat → Prop) : Prop where
  sl : ∀ g, S g → g < w.heap.size
  rl : ∀ g, R g → g < w.heap.size
  dis : ∀ g, R g → ¬ S g
  ty : ∀ g cur e, S g → w.heap[g]? = some (.cells cur e (0, 0)) → e = 72 ∨ e = 104
/-- A map of pasts. -/
structure TbM (w : World) (S R : Nat → Prop) (mb : Nat) (F : Int → Option Value) (m : Int → Past) : Prop where
  map : IsMap w mb F
  own : S mb
  dom : ∀ k, F k ≠ none → 1 ≤ k ∧ k ≤ 4096
  no : ∀ k, F k = none → m k = ⟨0, []⟩
  yes : ∀ k v, F k = some v → ∃ sv, v = .agg #[.int .i64 (m k).chg, sv] ∧ RowT w S R sv (m k).vs
  apart : ∀ k k' c c' sv sv' g, F k = some (.agg #[c, sv]) → F k' = some (.agg #[c', sv']) → sv.ownBlock = some g → sv'.ownBlock = some g → S g → k = k'
def TbV (w : World) (S R : Nat → Prop) (mv : Option Nat) (m : Int → Past) : Prop := match mv with
  | none => ∀ k, m k = ⟨0, []⟩
  | some mb => ∃ F, TbM w S R mb F m
def tabB (f l : Int) (mv : Option Nat) : Obj := .cells #[.int .i64 f, .int .i64 l, .map mv] 72 (0, 0)
theorem tab_cells {w : World} {b : Nat} {f l : Int} {mv : Option Nat} (h : w.heap[b]? = some (tabB f l mv)) : w.cell? ⟨b, 0, none⟩ = some (.int .i64 f) ∧ w.cell? ⟨b, 1, none⟩ = some (.int .i64 l) ∧ w.cell? ⟨b, 2, none⟩ = some (.map mv) := by
  unfold tabB at h
  refine ⟨?_, ?_, ?_⟩ <;> rw [cell_of_row w b _ _ _ _ h] <;> rfl
theorem tab_frozen {w : World} {b : Nat} {f l : Int} {mv : Option Nat} (h : w.heap[b]? = some (tabB f l mv)) (k : Nat) : w.frozen? ⟨b, k, none⟩ = false := by
  unfold World.frozen?
  unfold tabB at h
  rw [h]
  rfl
/-- A table in memory. -/
structure Tb (w : World) (S R : Nat → Prop) (b : Nat) (t : Tab) : Prop where
  blk : ∃ mv, w.heap[b]? = some (tabB t.first t.last mv) ∧ TbV w S R mv t.m
  own : S b
  sets : Sets w S R
  good : GoodM t.m t.last
  first0 : 0 ≤ t.first ∧ t.first ≤ t.last ∧ t.last ≤ 1099511627776
theorem IsMap.noCells {w : World} {b g : Nat} {f : Int → Option Value} {cur : Array Value} {e : Nat} (h : IsMap w b f) (hg : w.heap[g]? = some (.cells cur e (0, 0))) : g ≠ b := by
  intro e'
  subst e'
  obtain ⟨L, c, hb, _⟩ := h
  rw [hb] at hg
  cases hg
theorem TbM.same {w w' : World} {S S' R R' : Nat → Prop} {mb : Nat} {F : Int → Option Value} {m : Int → Past} (h : TbM w S R mb F m) (_hs : Sets w S R) (hS : ∀ g, S g → S' g) (hN : ∀ g, g < w.heap.size → ¬ S g → ¬ S' g) (hR : ∀ g, R g → R' g) (hk : ∀ g, S g ∨ R g → w'.heap[g]? = w.heap[g]?) : TbM w' S' R' mb F m := by
  refine ⟨h.map.same (hk mb (.inl h.own)), hS _ h.own, h.dom, h.no, fun k v hv => ?_, fun k k' c c' sv sv' g h1 h2 h3 h4 h5 => ?_⟩
  · obtain ⟨sv, e, hr⟩ := h.yes k v hv
    exact ⟨sv, e, hr.same hS hN hR (fun g _ hg => hk g (.inr hg)) (fun g hg => hk g ((hr.block hg).1))⟩
  · obtain ⟨sv0, e0, hr⟩ := h.yes k _ h1
    injection e0 with e0
    have e0' : sv = sv0 := (List.cons.inj (List.cons.inj (congrArg Array.toList e0)).2).1
    subst e0'
    have hlt := (hr.block h3).2.1
    exact h.apart k k' c c' sv sv' g h1 h2 h3 h4 (Classical.byContradiction fun hn => hN g hlt hn h5)
theorem TbV.same {w w' : World} {S S' R R' : Nat → Prop} {mv : Option Nat} {m : Int → Past} (h : TbV w S R mv m) (hs : Sets w S R) (hS : ∀ g, S g → S' g) (hN : ∀ g, g < w.heap.size → ¬ S g → ¬ S' g) (hR : ∀ g, R g → R' g) (hk : ∀ g, S g ∨ R g → w'.heap[g]? = w.heap[g]?) : TbV w' S' R' mv m := by
  cases mv with
  | none => exact h
  | some mb =>
    obtain ⟨F, h1⟩ := h
    exact ⟨F, h1.same hs hS hN hR hk⟩
theorem Sets.same {w w' : World} {S R : Nat → Prop} (h : Sets w S R) (hsz : w.heap.size ≤ w'.heap.size) (hk : ∀ g, S g ∨ R g → w'.heap[g]? = w.heap[g]?) : Sets w' S R :=
  ⟨fun g hg => Nat.lt_of_lt_of_le (h.sl g hg) hsz, fun g hg => Nat.lt_of_lt_of_le (h.rl g hg) hsz, h.dis, fun g cur e hg hh => h.ty g cur e hg (by rw [← hk g (.inl hg)]; exact hh)⟩
theorem Tb.same {w w' : World} {S R : Nat → Prop} {b : Nat} {t : Tab} (h : Tb w S R b t) (hsz : w.heap.size ≤ w'.heap.size) (hk : ∀ g, S g ∨ R g → w'.heap[g]? = w.heap[g]?) : Tb w' S R b t := by
  obtain ⟨mv, h1, h2⟩ := h.blk
  exact ⟨⟨mv, (hk b (.inl h.own)).trans h1, h2.same h.sets (fun _ h => h) (fun _ _ h => h) (fun _ h => h) hk⟩, h.own, h.sets.same hsz hk, h.good, h.first0⟩
theorem Sets.lt {w : World} {S R : Nat → Prop} (h : Sets w S R) {g : Nat} (hg : S g ∨ R g) : g < w.heap.size := hg.elim (h.sl g) (h.rl g)
theorem Tb.below {w w' : World} {S R : Nat → Prop} {b : Nat} {t : Tab} (h : Tb w S R b t) (hb : Below w.heap.size w w') : Tb w' S R b t := h.same hb.size (fun g hg => hb.block g (h.sets.lt hg))
/-- What stands under a key. -/
theorem TbM.get {w : World} {S R : Nat → Prop} {mb : Nat} {F : Int → Option Value} {m : Int → Past} (h : TbM w S R mb F m) (k : Int) : ∃ va vn vc, (F k).getD (.agg #[.int .i64 0, .slice none 0 0]) = .agg #[.int .i64 (m k).chg, .slice va vn vc] ∧ RowT w S R (.slice va vn vc) (m k).vs ∧ vn = (m k).vs.length := by
  cases hk : F k with
  | none =>
    rw [h.no k hk]
    exact ⟨none, 0, 0, rfl, RowT.nil _ _ _, rfl⟩
  | some v =>
    obtain ⟨sv, rfl, hr⟩ := h.yes k v hk
    obtain ⟨va, vn, vc, rfl, e⟩ := hr.shape
    exact ⟨va, vn, vc, rfl, hr, e⟩
structure Grow (S S' : Nat → Prop) (w w' : World) : Prop where
  old : ∀ g, S g → S' g
  new : ∀ g, S' g → S g ∨ (w.heap.size ≤ g ∧ g < w'.heap.size)
theorem Grow.refl (S : Nat → Prop) (w : World) : Grow S S w w := ⟨fun _ h => h, fun _ h => .inl h⟩
theorem Grow.trans {S S1 S2 : Nat → Prop} {w w1 w2 : World} (h : Grow S S1 w w1) (k : Grow S1 S2 w1 w2) (h1 : w.heap.size ≤ w1.heap.size) (h2 : w1.heap.size ≤ w2.heap.size) : Grow S S2 w w2 :=
  ⟨fun g hg => k.old g (h.old g hg), fun g hg => by
    rcases k.new g hg with q | ⟨q, q'⟩
    · rcases h.new g q with q | ⟨q, q'⟩
      · exact .inl q
      · exact .inr ⟨q, by omega⟩
    · exact .inr ⟨by omega, q'⟩⟩
end Go.Proofs.Ytajdelinfkodbaa
