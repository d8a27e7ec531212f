/- The document's table in memory, with what is forgotten. -/
import Derived.Test.YtajdelinfkodbaaDtm
import Derived.Test.YtajdelinfkodbaaOop
namespace Go.Proofs.Ytajdelinfkodbaa
open Go.RowKit
set_option maxRecDepth 100000
set_option maxRecDepth 100000
/-- append of one element onto a row of one's own: where the new row lies. -/
theorem app_row (w : World) (t ty e : TypeId) {i : TypeInfo} {z : Value} {size bytes : Nat} (ht : Try.prog.underlying t = some (.slice e)) (hi : Try.prog.info? e = some i) (hz : i.zero = some z) (hsize : i.size = size) (hby : i.bytes = bytes) (hzs : z.cells.size = size) (hsz : 0 < size) (hb1 : bytes ≤ 100) {base : Nat} {v : Value} {n : Nat} {xs : List Value} (q1 : w.ownsRow base e size v n xs) (nb : Nat) (news : List Value) (hl : news.length = size) (hc : ∀ j u, news[j]? = some u → w.cell? ⟨nb, j, none⟩ = some u) (h1c : ∀ u ∈ news, u.oneCell' = true) (hn : n ≤ 1000000000) (hbase : base ≤ w.heap.size) :
    ∃ a' n' c' w', (Builtin.append_ #[t, t] ty #[v, .slice (some ⟨nb, 0, none⟩) 1 1]).run Try.prog w = .ok (.slice a' n' c') w' ∧ w'.ownsRow base e size (.slice a' n' c') (n + 1) (xs ++ news) ∧ w.grownBy w' v.ownBlock ∧ ∀ g, (Value.slice a' n' c').ownBlock = some g → v.ownBlock = some g ∨ w.heap.size ≤ g := by
  have hnews : ∀ j u, news[j]? = some u → w.cell? ((⟨nb, 0, none⟩ : Addr).add j) = some u := fun j u hj => by rw [addr_add, Nat.zero_add]; exact hc j u hj
  have hl1 : news.length = 1 * size := by rw [Nat.one_mul]; exact hl
  have hbb : (n + 1) * bytes ≤ 140737488355328 := Nat.le_trans (Nat.mul_le_mul (show n + 1 ≤ 1000000001 by omega) hb1) (by decide)
  obtain ⟨v', w', hr, o1, o2, _⟩ := run_append_own (P := Try.prog) w base t ty e i _ size bytes ht hi hz hsize hby hzs hsz v n _ q1 ⟨nb, 0, none⟩ 1 1 news hl1 hnews h1c (by unfold maxLen; omega) hbb hbase
  obtain ⟨a', n', c', rfl⟩ : ∃ a n c, v' = .slice a n c := by
    rcases o1.2 with ⟨rfl, _⟩ | ⟨g, cap, cur, rfl, _⟩
    · exact ⟨_, _, _, rfl⟩
    · exact ⟨_, _, _, rfl⟩
  refine ⟨a', n', c', w', hr, o1, o2, fun g hg => ?_⟩
  rcases q1.2 with ⟨rfl, h0⟩ | ⟨g0, cap, cur, rfl, hbg, hgh, hnc, hcm, hcs, htake⟩
  · have hx0 : xs = [] := by
      have := q1.1
      rw [h0, Nat.zero_mul] at this
      exact List.eq_nil_of_length_eq_zero this
    subst hx0
    subst h0
    obtain ⟨v2, w2, hr2, h12, _, _⟩ := run_append_own (P := Try.prog) w w.heap.size t ty e i _ size bytes ht hi hz hsize hby hzs hsz (.slice none 0 0) 0 [] (World.ownsRow_nil _ _ _ _) ⟨nb, 0, none⟩ 1 1 news hl1 hnews h1c (by unfold maxLen; omega) hbb (Nat.le_refl _)
    rw [hr] at hr2
    injection hr2 with e1 e2
    subst e1
    exact .inr (own_block h12 hg).1
  · by_cases hroom : n + 1 ≤ cap
    · obtain ⟨w2, hr2, _, _⟩ := run_append_own_spare (P := Try.prog) w base t ty e i size ht hi hsize g0 n cap _ q1 ⟨nb, 0, none⟩ 1 1 news hl1 hnews h1c hroom
      rw [hr] at hr2
      injection hr2 with e1 e2
      rw [e1] at hg
      exact .inl hg
    · have holds : ∀ j u, xs[j]? = some u → w.cell? ((⟨g0, 0, none⟩ : Addr).add j) = some u := World.ownsRow.cells q1 (g := g0) rfl
      have hr2 := run_append_grow (P := Try.prog) w t ty e i _ ht hi hz ⟨g0, 0, none⟩ n cap _ (by rw [hsize]; exact q1.1) holds ⟨nb, 0, none⟩ 1 1 news (by rw [hsize]; exact hl1) hnews (by omega) (by omega) (growslice_fits (by omega) (by rw [hby]; exact hbb))
      rw [hr] at hr2
      injection hr2 with e1 e2
      rw [e1] at hg
      simp [Value.ownBlock] at hg
      exact .inr (by omega)
/-- A row of changes all of whose blocks lie in a set. -/
def ChT (w : World) (T : Nat → Prop) (v : Value) (xs : List Ch) : Prop :=
  ∃ ss : List Cs, ss.map Cs.x = xs ∧ (∀ s ∈ ss, ElT w T s) ∧ (∀ x ∈ xs, -9223372036854775808 ≤ x.oop ∧ x.oop ≤ 9223372036854775807) ∧ w.ownsRow 0 73 5 v ss.length (flatC ss) ∧ InT T v
theorem ChT.nil (w : World) (T : Nat → Prop) : ChT w T (.slice none 0 0) [] := ⟨[], rfl, by simp, by simp, World.ownsRow_nil _ _ _ _, fun g hg => by simp [Value.ownBlock] at hg⟩
theorem ChT.shape {w : World} {T : Nat → Prop} {v : Value} {xs : List Ch} (h : ChT w T v xs) : ∃ a n c, v = .slice a n c ∧ n = xs.length := by
  obtain ⟨ss, rfl, _, _, h1, _⟩ := h
  rcases h1.2 with ⟨rfl, h0⟩ | ⟨g, cap, cur, rfl, _⟩
  · exact ⟨none, 0, 0, rfl, by rw [List.length_map, h0]⟩
  · exact ⟨_, _, _, rfl, by rw [List.length_map]⟩
theorem ChT.same {w w' : World} {T T' : Nat → Prop} {v : Value} {xs : List Ch} (h : ChT w T v xs) (hT : ∀ g, T g → T' g) (hk : ∀ g, g < w.heap.size → T g → w'.heap[g]? = w.heap[g]?) : ChT w' T' v xs := by
  obtain ⟨ss, h0, h1, h2, h3, h4⟩ := h
  refine ⟨ss, h0, fun s hs => (h1 s hs).same hT hk, h2, own_same h3 (fun g hg => hk g ?_ (h4 g hg)), fun g hg => hT g (h4 g hg)⟩
  obtain ⟨_, cur, hh⟩ := own_block h3 hg
  exact lt_of_block hh
theorem ChT.ownC {w : World} {T : Nat → Prop} {v : Value} {xs : List Ch} (h : ChT w T v xs) : OwnC w 0 73 v xs := by
  obtain ⟨ss, h0, h1, h2, h3, _⟩ := h
  exact ⟨ss, h3, h0, fun s hs => (h1 s hs).el, h2⟩
theorem ChT.block {w : World} {T : Nat → Prop} {v : Value} {xs : List Ch} (h : ChT w T v xs) {g : Nat} (hg : v.ownBlock = some g) : T g ∧ ∃ cur, w.heap[g]? = some (.cells cur 73 (0, 0)) := by
  obtain ⟨ss, _, _, _, h3, h4⟩ := h
  exact ⟨h4 g hg, (own_block h3 hg).2⟩
theorem ChT.same' {w w' : World} {T T' : Nat → Prop} {v : Value} {xs : List Ch} (h : ChT w T v xs) (hT : ∀ g, T g → T' g) (hk : ∀ (g : Nat) (cur : Array Value) (t : Nat), T g → w.heap[g]? = some (Obj.cells cur t (0, 0)) → (t = 73 ∨ t = 84 ∨ t = 5) → w'.heap[g]? = w.heap[g]?) : ChT w' T' v xs := by
  obtain ⟨ss, q0, q1, q2, q3, q4⟩ := h
  refine ⟨ss, q0, fun s hs => ?_, q2, own_same q3 (fun g hg => ?_), fun g hg => hT g (q4 g hg)⟩
  · have e0 := q1 s hs
    refine ⟨e0.el.same' (fun g hg => ?_) (fun g hg => ?_), fun g hg => hT g (e0.v g hg), fun g hg => hT g (e0.b g hg)⟩
    · obtain ⟨_, cur, hh⟩ := e0.el.lt.1 g hg
      exact hk g cur 84 (e0.v g hg) hh (.inr (.inl rfl))
    · obtain ⟨_, cur, hh⟩ := e0.el.lt.2 g hg
      exact hk g cur 5 (e0.b g hg) hh (.inr (.inr rfl))
  · obtain ⟨_, cur, hh⟩ := own_block q3 hg
    exact hk g cur 73 (q4 g hg) hh (.inl rfl)
/-- A block of one type is no row of another one. -/
theorem own_ty {w : World} {base e e' sz n g : Nat} {v : Value} {xs : List Value} {cur : Array Value} (h : w.ownsRow base e sz v n xs) (hg : w.heap[g]? = some (Obj.cells cur e' (0, 0))) (hne : e ≠ e') : v.ownBlock ≠ some g := fun k => by
  obtain ⟨_, cur', hh⟩ := own_block h k
  rw [hg] at hh
  cases hh
  exact hne rfl
/-- A record of the document's table. -/
structure Rr where
  com : Int
  xs : List Ch
  a : Option Addr
  n : Nat
  c : Nat
def Rr.cells (r : Rr) : List Value := [.int .i64 r.com, .slice r.a r.n r.c]
def flatR (rs : List Rr) : List Value := rs.flatMap Rr.cells
theorem flatR_app (rs ts : List Rr) : flatR (rs ++ ts) = flatR rs ++ flatR ts := by unfold flatR; rw [List.flatMap_append]
/-- The row of records. -/
def LrT (w : World) (U : Nat → Prop) (v : Value) (l : List (Int × List Ch)) : Prop :=
  ∃ rs : List Rr, rs.map (fun r => (r.com, r.xs)) = l ∧ w.ownsRow 0 29 2 v rs.length (flatR rs) ∧ InT U v ∧ ∀ r ∈ rs, ChT w U (.slice r.a r.n r.c) r.xs
theorem LrT.same {w w' : World} {U U' : Nat → Prop} {v : Value} {l : List (Int × List Ch)} (h : LrT w U v l) (hT : ∀ g, U g → U' g) (hk : ∀ g cur e, U g → w.heap[g]? = some (.cells cur e (0, 0)) → e ≠ 35 → e ≠ 82 → w'.heap[g]? = w.heap[g]?) : LrT w' U' v l := by
  obtain ⟨rs, h0, h1, h2, h3⟩ := h
  refine ⟨rs, h0, own_same h1 (fun g hg => ?_), fun g hg => hT g (h2 g hg), fun r hr => ?_⟩
  · obtain ⟨_, cur, hh⟩ := own_block h1 hg
    exact hk g cur 29 (h2 g hg) hh (by decide) (by decide)
  · obtain ⟨ss, q0, q1, q2, q3, q4⟩ := h3 r hr
    refine ⟨ss, q0, fun s hs => ?_, q2, own_same q3 (fun g hg => ?_), fun g hg => hT g (q4 g hg)⟩
    · have e0 := q1 s hs
      refine ⟨e0.el.same' (fun g hg => ?_) (fun g hg => ?_), fun g hg => hT g (e0.v g hg), fun g hg => hT g (e0.b g hg)⟩
      · obtain ⟨_, cur, hh⟩ := e0.el.lt.1 g hg
        exact hk g cur 84 (e0.v g hg) hh (by decide) (by decide)
      · obtain ⟨_, cur, hh⟩ := e0.el.lt.2 g hg
        exact hk g cur 5 (e0.b g hg) hh (by decide) (by decide)
    · obtain ⟨_, cur, hh⟩ := own_block q3 hg
      exact hk g cur 73 (q4 g hg) hh (by decide) (by decide)
theorem LrT.shape {w : World} {U : Nat → Prop} {v : Value} {l : List (Int × List Ch)} (h : LrT w U v l) : ∃ a n c, v = .slice a n c ∧ n = l.length := by
  obtain ⟨rs, rfl, h1, _⟩ := h
  rcases h1.2 with ⟨rfl, h0⟩ | ⟨g, cap, cur, rfl, _⟩
  · exact ⟨none, 0, 0, rfl, by rw [List.length_map, h0]⟩
  · exact ⟨_, _, _, rfl, by rw [List.length_map]⟩
theorem flatR_at : ∀ {rs : List Rr} {i : Nat} {r : Rr}, rs[i]? = some r → (flatR rs)[i * 2]? = some (.int .i64 r.com) ∧ (flatR rs)[i * 2 + 1]? = some (.slice r.a r.n r.c)
  | [], i, r, h => by simp at h
  | x :: rs, 0, r, h => by
    simp at h
    subst h
    exact ⟨rfl, rfl⟩
  | x :: rs, i + 1, r, h => by
    have e : flatR (x :: rs) = x.cells ++ flatR rs := rfl
    have hl : x.cells.length = 2 := rfl
    obtain ⟨h1, h2⟩ := flatR_at (rs := rs) (i := i) (r := r) (by simpa using h)
    rw [e]
    refine ⟨?_, ?_⟩
    · rw [List.getElem?_append_right (by rw [hl]; omega), hl, show (i + 1) * 2 - 2 = i * 2 by omega]; exact h1
    · rw [List.getElem?_append_right (by rw [hl]; omega), hl, show (i + 1) * 2 + 1 - 2 = i * 2 + 1 by omega]; exact h2
theorem LrT.at_ {w : World} {U : Nat → Prop} {a : Option Addr} {n c : Nat} {l : List (Int × List Ch)} (h : LrT w U (.slice a n c) l) (j : Nat) (hj : j < l.length) : ∃ rb com ra rn rc xs, a = some ⟨rb, 0, none⟩ ∧ rb < w.heap.size ∧ w.cell? ⟨rb, j * 2, none⟩ = some (.int .i64 com) ∧ w.cell? ⟨rb, j * 2 + 1, none⟩ = some (.slice ra rn rc) ∧ IsC w ra rn rc xs ∧ Hid (l[j]? = some (com, xs)) := by
  obtain ⟨rs, rfl, h1, _, h3⟩ := h
  rw [List.length_map] at hj
  obtain ⟨r, hr⟩ : ∃ r, rs[j]? = some r := ⟨_, List.getElem?_eq_getElem hj⟩
  obtain ⟨f0, f1⟩ := flatR_at hr
  rcases h1.2 with ⟨_, h0⟩ | ⟨g, cap, cur, e, _⟩
  · omega
  · cases e
    have c0 := World.ownsRow.cells h1 (g := g) rfl _ _ f0
    have c1 := World.ownsRow.cells h1 (g := g) rfl _ _ f1
    rw [Addr.add_lit, Nat.zero_add] at c0 c1
    exact ⟨g, r.com, r.a, r.n, r.c, r.xs, rfl, lt_of_cell c0, c0, c1, (h3 r (List.mem_of_getElem? hr)).ownC.isC, by show _ = _; rw [List.getElem?_map, hr]; rfl⟩
theorem lit2 {w : World} {c0 c1 : Value} {t : Nat} : ∀ (j : Nat) (v : Value), ([c0, c1] : List Value)[j]? = some v → (w.alloc (.cells #[c0, c1] t)).cell? ⟨w.heap.size, j, none⟩ = some v := by
  intro j v hj
  have h := heap_alloc_new w (.cells #[c0, c1] t)
  rw [cell_of_row _ _ _ _ _ _ h]
  simpa using hj
theorem Try.info29 : (Try.prog.info? 29).map (fun i => (i.zero, i.size, i.bytes)) = some (some (.agg #[.int .i64 0, .slice none 0 0]), 2, 32) := by kernel_rfl
theorem Try.info82 : (Try.prog.info? 82).map (fun i => (i.zero, i.size, i.bytes)) = some (some (.agg #[.int .i64 0, .int .i64 0]), 2, 16) := by kernel_rfl
def rtB (f e : Int) (B l m : Value) : Obj := .cells #[.int .i64 f, .int .i64 e, B, l, m] 35 (0, 0)
section
variable {w : World} {b : Nat} {f e : Int} {B l m : Value}
theorem rt_cells (h : w.heap[b]? = some (rtB f e B l m)) : w.cell? ⟨b, 0, none⟩ = some (.int .i64 f) ∧ w.cell? ⟨b, 1, none⟩ = some (.int .i64 e) ∧ w.cell? ⟨b, 2, none⟩ = some B ∧ w.cell? ⟨b, 3, none⟩ = some l ∧ w.cell? ⟨b, 4, none⟩ = some m := by
  unfold rtB at h
  refine ⟨?_, ?_, ?_, ?_, ?_⟩ <;> rw [cell_of_row w b _ _ _ _ h] <;> rfl
theorem rt_frozen (h : w.heap[b]? = some (rtB f e B l m)) (k : Nat) : w.frozen? ⟨b, k, none⟩ = false := by
  unfold World.frozen?
  unfold rtB at h
  rw [h]
  rfl
theorem rt_set4 (h : w.heap[b]? = some (rtB f e B l m)) (m' : Value) : (w.setCell ⟨b, 4, none⟩ m').heap[b]? = some (rtB f e B l m') := by
  unfold rtB at h ⊢
  rw [heap_setCell_same w _ 4 _ _ _ h]
  simp
theorem rt_set3 (h : w.heap[b]? = some (rtB f e B l m)) (l' : Value) : (w.setCell ⟨b, 3, none⟩ l').heap[b]? = some (rtB f e B l' m) := by
  unfold rtB at h ⊢
  rw [heap_setCell_same w _ 3 _ _ _ h]
  simp
theorem rt_set2 (h : w.heap[b]? = some (rtB f e B l m)) (B' : Value) : (w.setCell ⟨b, 2, none⟩ B').heap[b]? = some (rtB f e B' l m) := by
  unfold rtB at h ⊢
  rw [heap_setCell_same w _ 2 _ _ _ h]
  simp
theorem rt_set1 (h : w.heap[b]? = some (rtB f e B l m)) (e' : Int) : (w.setCell ⟨b, 1, none⟩ (.int .i64 e')).heap[b]? = some (rtB f e' B l m) := by
  unfold rtB at h ⊢
  rw [heap_setCell_same w _ 1 _ _ _ h]
  simp
theorem rt_set0 (h : w.heap[b]? = some (rtB f e B l m)) (f' : Int) : (w.setCell ⟨b, 0, none⟩ (.int .i64 f')).heap[b]? = some (rtB f' e B l m) := by
  unfold rtB at h ⊢
  rw [heap_setCell_same w _ 0 _ _ _ h]
  simp
end
def flatW (ws : List (Int × Int)) : List Value := ws.flatMap (fun q => [.int .i64 q.1, .int .i64 q.2])
theorem flatW_app (ws ts : List (Int × Int)) : flatW (ws ++ ts) = flatW ws ++ flatW ts := by unfold flatW; rw [List.flatMap_append]
theorem flatW_at : ∀ {ws : List (Int × Int)} {i : Nat} {q : Int × Int}, ws[i]? = some q → (flatW ws)[i * 2]? = some (.int .i64 q.1) ∧ (flatW ws)[i * 2 + 1]? = some (.int .i64 q.2)
  | [], i, r, h => by simp at h
  | x :: rs, 0, r, h => by
    simp at h
    subst h
    exact ⟨rfl, rfl⟩
  | x :: rs, i + 1, r, h => by
    have e : flatW (x :: rs) = [.int .i64 x.1, .int .i64 x.2] ++ flatW rs := rfl
    have hl : ([.int .i64 x.1, .int .i64 x.2] : List Value).length = 2 := rfl
    obtain ⟨h1, h2⟩ := flatW_at (ws := rs) (i := i) (q := r) (by simpa using h)
    rw [e]
    refine ⟨?_, ?_⟩
    · rw [List.getElem?_append_right (by rw [hl]; omega), hl, show (i + 1) * 2 - 2 = i * 2 by omega]; exact h1
    · rw [List.getElem?_append_right (by rw [hl]; omega), hl, show (i + 1) * 2 + 1 - 2 = i * 2 + 1 by omega]; exact h2
/-- The row of who changed what last. -/
def WrT (w : World) (U : Nat → Prop) (v : Value) (ws : List (Int × Int)) : Prop := w.ownsRow 0 82 2 v ws.length (flatW ws) ∧ InT U v
theorem WrT.shape {w : World} {U : Nat → Prop} {v : Value} {ws : List (Int × Int)} (h : WrT w U v ws) : ∃ a c, v = .slice a ws.length c := by
  obtain ⟨h1, _⟩ := h
  rcases h1.2 with ⟨rfl, h0⟩ | ⟨g, cap, cur, rfl, _⟩
  · exact ⟨none, 0, by rw [h0]⟩
  · exact ⟨_, _, rfl⟩
theorem WrT.at_ {w : World} {U : Nat → Prop} {a : Option Addr} {n c : Nat} {ws : List (Int × Int)} (h : WrT w U (.slice a n c) ws) (j : Nat) (hj : j < ws.length) : ∃ rb k d, a = some ⟨rb, 0, none⟩ ∧ rb < w.heap.size ∧ w.cell? ⟨rb, j * 2, none⟩ = some (.int .i64 k) ∧ w.cell? ⟨rb, j * 2 + 1, none⟩ = some (.int .i64 d) ∧ Hid (ws[j]? = some (k, d)) := by
  obtain ⟨h1, _⟩ := h
  obtain ⟨q, hq⟩ : ∃ q, ws[j]? = some q := ⟨_, List.getElem?_eq_getElem hj⟩
  obtain ⟨f0, f1⟩ := flatW_at hq
  rcases h1.2 with ⟨_, h0⟩ | ⟨g, cap, cur, e, _⟩
  · omega
  · cases e
    have c0 := World.ownsRow.cells h1 (g := g) rfl _ _ f0
    have c1 := World.ownsRow.cells h1 (g := g) rfl _ _ f1
    rw [Addr.add_lit, Nat.zero_add] at c0 c1
    exact ⟨g, q.1, q.2, rfl, lt_of_cell c0, c0, c1, hq⟩
/-- The document's table. -/
structure RTb (w : World) (U : Nat → Prop) (b : Nat) (u : RTf) (k : Nat) : Prop where
  blk : ∃ bv lv wv, w.heap[b]? = some (rtB u.from_ u.end_ bv lv wv) ∧ ChT w U bv u.base ∧ LrT w U lv u.recs ∧ WrT w U wv u.ws
  own : U b
  lt : ∀ g, U g → g < w.heap.size
  few : u.recs.length ≤ k ∧ u.ws.length ≤ 4096 * k
  ge0 : 0 ≤ u.from_ ∧ 0 ≤ u.end_
theorem RTb.same {w w' : World} {U : Nat → Prop} {b : Nat} {u : RTf} {k : Nat} (h : RTb w U b u k) (hsz : w.heap.size ≤ w'.heap.size) (hk : ∀ g, U g → w'.heap[g]? = w.heap[g]?) : RTb w' U b u k := by
  obtain ⟨bv, lv, wv, h1, h0, h2, ⟨h3, h4⟩⟩ := h.blk
  exact ⟨⟨bv, lv, wv, (hk b h.own).trans h1, h0.same (fun _ h => h) (fun g _ hg => hk g hg), h2.same (fun _ h => h) (fun g _ _ hg _ _ _ => hk g hg), ⟨own_same h3 (fun g hg => hk g (h4 g hg)), h4⟩⟩, h.own, fun g hg => Nat.lt_of_lt_of_le (h.lt g hg) hsz, h.few, h.ge0⟩
theorem RTb.below {w w' : World} {U : Nat → Prop} {b : Nat} {u : RTf} {k : Nat} (h : RTb w U b u k) (hb : Below w.heap.size w w') : RTb w' U b u k := h.same hb.size (fun g hg => hb.block g (h.lt g hg))
theorem RTb.up {w : World} {U : Nat → Prop} {b : Nat} {u : RTf} {k k' : Nat} (h : RTb w U b u k) (hk : k ≤ k') : RTb w U b u k' := ⟨h.blk, h.own, h.lt, by have := h.few; constructor <;> omega, h.ge0⟩
def rtab0 : RTf := ⟨0, 0, [], [], []⟩
theorem rnew_tab (w : World) : Calls Try.prog 9 #[] w fun e w' => e = .returned (.pointer (some ⟨w.heap.size, 0, none⟩)) ∧ w' = w.alloc (rtB 0 0 (.slice none 0 0) (.slice none 0 0) (.slice none 0 0)) := by
  go_enter Try.func9, Try.ntmps9
  go_wp2
  go_ret
  exact ⟨rfl, rfl⟩
theorem RTb.new (w : World) : RTb (w.alloc (rtB 0 0 (.slice none 0 0) (.slice none 0 0) (.slice none 0 0))) (fun g => g = w.heap.size) w.heap.size rtab0 0 :=
  ⟨⟨_, _, _, new1 _ _, ChT.nil _ _, ⟨[], rfl, World.ownsRow_nil _ _ _ _, fun g hg => by simp [Value.ownBlock] at hg, by simp⟩, ⟨World.ownsRow_nil _ _ _ _, fun g hg => by simp [Value.ownBlock] at hg⟩⟩, rfl, fun g hg => by rw [hg]; simp, by simp [rtab0], by simp [rtab0]⟩
end Go.Proofs.Ytajdelinfkodbaa
