/- Messages have as many arguments as their selectors say: reckoned. -/
import Derived.Test.YtncfmhlikmibaaaGreatDoorTreM
import Derived.Test.YtncfmhlikmibaaaGreatDoorLexP
namespace Go.Proofs.YtncfmhlikmibaaaGreatDoor
/-- How many arguments a selector has. -/
def argsL (t : List Int) : Nat := match t with
  | [] => 0
  | c :: r => if letB c then (c :: r).count 58 else 1
/-- Each message has as many arguments as it says. -/
inductive Shp : Nd → Prop where
  | mk (k : Int) (t : List Int) (p n : Nat) (l : List (List Int)) (kids : List Nd) (h7 : k = 7 → argsL t + 1 = kids.length) (h9 : k = 9 → argsL t = kids.length) (h11 : k = 11 → kids.length = 1) (h6 : k = 6 → kids.length = 1) (hn : n ≤ l.length) (ht : ∀ c ∈ t, 0 ≤ c ∧ c < 256) (hk : ∀ x ∈ kids, Shp x) : Shp (.mk k t p n l kids)
theorem Shp.kidsOf {x : Nd} (h : Shp x) : ∀ y ∈ x.kids, Shp y := by cases h; assumption
theorem Shp.byt {x : Nd} (h : Shp x) : ∀ c ∈ x.text, 0 ≤ c ∧ c < 256 := by cases h; assumption
theorem Shp.seven {x : Nd} (h : Shp x) (h7 : x.kind = 7) : argsL x.text + 1 = x.kids.length := by
  cases h with
  | mk k t p n l kids a b c d e g f => exact a h7
theorem Shp.nine {x : Nd} (h : Shp x) (h9 : x.kind = 9) : argsL x.text = x.kids.length := by
  cases h with
  | mk k t p n l kids a b c d e g f => exact b h9
theorem Shp.one {x : Nd} (h : Shp x) (hk : x.kind = 11 ∨ x.kind = 6) : x.kids.length = 1 := by
  cases h with
  | mk k t p n l kids a b c d e g f => exact hk.elim c d
theorem Shp.args {x : Nd} (h : Shp x) : x.n ≤ x.names.length := by
  cases h with
  | mk k t p n l kids a b c d e g f => exact e
/-- What the words' texts are. -/
structure Toks (W : List Tk) : Prop where
  byt : ∀ i, ∀ c ∈ txW W i, 0 ≤ c ∧ c < 256
  name : ∀ i, kdW W i = 1 → argsL (txW W i) = 0
  sign : ∀ i, kdW W i = 3 → argsL (txW W i) = 1
  key : ∀ i, kdW W i = 2 → (∃ c r, txW W i = c :: r ∧ letB c = true) ∧ (txW W i).count 58 = 1
theorem Shp.leaf {k : Int} {t : List Int} {p : Nat} (ht : ∀ c ∈ t, 0 ≤ c ∧ c < 256) (h7 : k ≠ 7) (h9 : k ≠ 9) (h11 : k ≠ 11) (h6 : k ≠ 6) : Shp (.mk k t p 0 [] []) :=
  .mk _ _ _ _ _ _ (fun h => absurd h h7) (fun h => absurd h h9) (fun h => absurd h h11) (fun h => absurd h h6) (Nat.le_refl _) ht (fun _ h => absurd h List.not_mem_nil)
theorem Shp.set {t : List Int} {p : Nat} {x : Nd} (ht : ∀ c ∈ t, 0 ≤ c ∧ c < 256) (h : Shp x) : Shp (.mk 6 t p 0 [] [x]) :=
  .mk _ _ _ _ _ _ (fun h => absurd h (by decide)) (fun h => absurd h (by decide)) (fun _ => rfl) (fun _ => rfl) (Nat.le_refl _) ht (fun y hy => by rw [List.mem_singleton.1 hy]; exact h)
theorem Shp.ret {t : List Int} {p : Nat} {x : Nd} (ht : ∀ c ∈ t, 0 ≤ c ∧ c < 256) (h : Shp x) : Shp (.mk 11 t p 0 [] [x]) :=
  .mk _ _ _ _ _ _ (fun h => absurd h (by decide)) (fun h => absurd h (by decide)) (fun _ => rfl) (fun _ => rfl) (Nat.le_refl _) ht (fun y hy => by rw [List.mem_singleton.1 hy]; exact h)
theorem Shp.msg {t : List Int} {p : Nat} {l : List Nd} (hb : ∀ c ∈ t, 0 ≤ c ∧ c < 256) (ht : argsL t = l.length) (h : ∀ x ∈ l, Shp x) : Shp (msgN t p l) :=
  .mk _ _ _ _ _ _ (fun h => absurd h (by decide)) (fun _ => ht) (fun h => absurd h (by decide)) (fun h => absurd h (by decide)) (Nat.le_refl _) hb h
theorem Shp.sent {r m : Nd} (hr : Shp r) (hm : Shp m) (h9 : m.kind = 9) : Shp (sentN r m) :=
  .mk _ _ _ _ _ _ (fun _ => by rw [hm.nine h9]; rfl) (fun h => absurd h (by decide)) (fun h => absurd h (by decide)) (fun h => absurd h (by decide)) (Nat.le_refl _) hm.byt (fun y hy => (List.mem_cons.1 hy).elim (fun e => e ▸ hr) (fun e => hm.kidsOf y e))
/-- Kinds that may have any number of parts. -/
def Any4 (x : Nd) : Prop := x.kind ≠ 7 ∧ x.kind ≠ 9 ∧ x.kind ≠ 11 ∧ x.kind ≠ 6
theorem any4_mk {t : List Int} {p n : Nat} {l : List (List Int)} {kids : List Nd} (k : Int) (h : k = 4 ∨ k = 8 ∨ k = 10 ∨ k = 12) : Any4 (.mk k t p n l kids) := by
  refine ⟨?_, ?_, ?_, ?_⟩ <;> (show k ≠ _; omega)
theorem Shp.kid {x y : Nd} (h : Shp x) (ha : Any4 x) (hy : Shp y) : Shp (x.kid y) := by
  obtain ⟨a7, a9, a11, a6⟩ := ha
  exact .mk _ _ _ _ _ _ (fun h => absurd h a7) (fun h => absurd h a9) (fun h => absurd h a11) (fun h => absurd h a6) h.args h.byt (fun z hz => (List.mem_append.1 hz).elim (h.kidsOf z) (fun e => by rw [List.mem_singleton.1 e]; exact hy))
theorem Shp.tmp {x : Nd} {t : List Int} (h : Shp x) (ha : Any4 x) : Shp (x.tmp t) := by
  obtain ⟨a7, a9, a11, a6⟩ := ha
  exact .mk _ _ _ _ _ _ (fun h => absurd h a7) (fun h => absurd h a9) (fun h => absurd h a11) (fun h => absurd h a6) (by have := h.args; rw [List.length_append]; omega) h.byt h.kidsOf
theorem Shp.arg {x : Nd} {t : List Int} (h : Shp x) (ha : Any4 x) : Shp (x.arg t) := by
  obtain ⟨a7, a9, a11, a6⟩ := ha
  exact .mk _ _ _ _ _ _ (fun h => absurd h a7) (fun h => absurd h a9) (fun h => absurd h a11) (fun h => absurd h a6) (by have := h.args; rw [List.length_append, List.length_singleton]; omega) h.byt h.kidsOf
theorem Shp.say {x : Nd} {t : List Int} (ht : ∀ c ∈ t, 0 ≤ c ∧ c < 256) (h : Shp x) (ha : Any4 x) : Shp (x.say t) := by
  obtain ⟨a7, a9, a11, a6⟩ := ha
  exact .mk _ _ _ _ _ _ (fun h => absurd h a7) (fun h => absurd h a9) (fun h => absurd h a11) (fun h => absurd h a6) h.args (fun c hc => (List.mem_append.1 hc).elim (h.byt c) (ht c)) h.kidsOf
theorem Shp.say2 {W : List Tk} (T : Toks W) {x : Nd} (i : Nat) (h : Shp x) (ha : Any4 x) : Shp (x.say (txW W i)) := Shp.say (T.byt i) h ha
theorem Shp.casc {s : Nd} (h : Shp s) (h7 : s.kind = 7) : Shp (cascN s) := by
  have hl := h.seven h7
  have hk := h.kidsOf
  cases hs : s.kids with
  | nil => rw [hs] at hl; cases hl
  | cons r m =>
    unfold cascN
    rw [hs] at hl hk ⊢
    refine .mk _ _ _ _ _ _ (fun h => absurd h (by decide)) (fun h => absurd h (by decide)) (fun h => absurd h (by decide)) (fun h => absurd h (by decide)) (Nat.le_refl _) (fun _ h => absurd h List.not_mem_nil) (fun y hy => ?_)
    rcases List.mem_cons.1 hy with rfl | hy
    · exact hk _ (List.mem_cons_self ..)
    · rw [List.mem_singleton.1 hy]
      exact .msg h.byt (by simpa using hl) (fun z hz => hk z (List.mem_cons_of_mem _ hz))
/-- A selector of keys that is being made. -/
def KeyT (t : List Int) (n : Nat) : Prop := (t = [] ∨ ∃ c r, t = c :: r ∧ letB c = true) ∧ t.count 58 = n
theorem KeyT.args {t : List Int} {n : Nat} (h : KeyT t n) : argsL t = n := by
  obtain ⟨rfl | ⟨c, r, rfl, hc⟩, hn⟩ := h
  · exact hn
  · show (if letB c then (c :: r).count 58 else 1) = n; rw [if_pos hc]; exact hn
theorem KeyT.more {W : List Tk} (T : Toks W) {t : List Int} {n i : Nat} (h : KeyT t n) (hi : kdW W i = 2) : KeyT (t ++ txW W i) (n + 1) := by
  obtain ⟨ht, hn⟩ := h
  obtain ⟨⟨c, r, e, hc⟩, h1⟩ := T.key i hi
  refine ⟨.inr ?_, by rw [List.count_append, hn, h1]⟩
  rcases ht with rfl | ⟨c', r', rfl, hc'⟩
  · exact ⟨c, r, e, hc⟩
  · exact ⟨c', r' ++ txW W i, rfl, hc'⟩
def PreS : Qy → Prop
  | .unaOf _ _ x | .binOf _ _ x | .keyOf _ _ x => Shp x
  | .others _ _ x | .elems _ _ x | .args _ _ x | .temps _ _ x | .body _ _ x | .stmts _ _ x => Shp x ∧ Any4 x
  | .keys _ _ x => x.kind = 9 ∧ x.n = 0 ∧ (∀ c ∈ x.text, 0 ≤ c ∧ c < 256) ∧ KeyT x.text x.kids.length ∧ ∀ y ∈ x.kids, Shp y
  | .pat _ _ x => Shp x ∧ Any4 x ∧ x.text = [] ∧ x.n = 0
  | .keyP _ _ x => Shp x ∧ Any4 x ∧ KeyT x.text x.n
  | _ => True
def PostS : Qy → Nd → Nat → Prop
  | .unaOf i _ x, y, j | .binOf i _ x, y, j | .keyOf i _ x, y, j => Shp y ∧ ((y = x ∧ j = i) ∨ y.kind = 7)
  | .keys _ _ _, y, _ | .msg _ _, y, _ => Shp y ∧ y.kind = 9
  | .others _ _ x, y, _ | .elems _ _ x, y, _ | .args _ _ x, y, _ => Shp y ∧ y.kind = x.kind
  | .temps _ _ x, y, _ | .body _ _ x, y, _ | .stmts _ _ x, y, _ => Shp y ∧ y.kind = x.kind ∧ y.text = x.text ∧ y.n = x.n
  | .pat _ _ x, y, _ | .keyP _ _ x, y, _ => Shp y ∧ y.kind = x.kind ∧ y.n = argsL y.text
  | _, y, _ => Shp y
def ShpR (a : Qy) : Rs → Prop
  | .ok y j => PostS a y j
  | .er _ _ => True
theorem ok_of {o : Option Rs} {f : Nd → Nat → Option Rs} {y : Nd} {j : Nat} (e : o.bind (fun r => r.bind f) = some (.ok y j)) : ∃ x k, o = some (.ok x k) ∧ f x k = some (.ok y j) := by
  obtain ⟨x, hx, e'⟩ := bindE e
  rcases rsE e' with ⟨_, _, _, h⟩ | ⟨x', k, rfl, h⟩
  · cases h
  · exact ⟨x', k, hx, h⟩
theorem okI {x y : Nd} {i j : Nat} (h : (some (Rs.ok x i) : Option Rs) = some (.ok y j)) : x = y ∧ i = j := by cases h; exact ⟨rfl, rfl⟩
theorem lit_shp {W : List Tk} (T : Toks W) {q : Qy → Option Rs} {i d j : Nat} {y : Nd} (ih : ∀ a r, q a = some r → PreS a → ShpR a r) (e : litW W i d q = some (.ok y j)) : Shp y := by
  unfold litW at e
  split at e
  · obtain ⟨rfl, _⟩ := okI e; exact .leaf (T.byt i) (by decide) (by decide) (by decide) (by decide)
  · split at e
    · obtain ⟨rfl, _⟩ := okI e; exact .leaf (T.byt i) (by decide) (by decide) (by decide) (by decide)
    · split at e
      · obtain ⟨rfl, _⟩ := okI e; exact .leaf (T.byt i) (by decide) (by decide) (by decide) (by decide)
      · split at e
        · exact ih _ _ e trivial
        · cases e
theorem any4_of {x y : Nd} (h : Any4 x) (e : y.kind = x.kind) : Any4 y := by unfold Any4; rw [e]; exact h
theorem run_shp {W : List Tk} (T : Toks W) (f : Nat) : ∀ a r, runW W f a = some r → PreS a → ShpR a r := by
  induction f with
  | zero => intro a r e; cases e
  | succ f ih =>
    intro a r e hp
    have e : stepW W (runW W f) a = some r := e
    cases r with
    | er j c => trivial
    | ok y j =>
      show PostS a y j
      cases a with
      | expr i d =>
        simp only [stepW] at e
        split at e
        · split at e
          · cases e
          · obtain ⟨x, k, hx, e⟩ := ok_of e
            obtain ⟨rfl, rfl⟩ := okI e
            exact Shp.set (T.byt i) (ih _ _ hx trivial)
        · exact ih _ _ e trivial
      | prim i d =>
        simp only [stepW] at e
        split at e
        · obtain ⟨rfl, _⟩ := okI e; exact Shp.leaf (T.byt i) (by decide) (by decide) (by decide) (by decide)
        · split at e
          · split at e
            · cases e
            · obtain ⟨x, k, hx, e⟩ := ok_of e
              split at e
              · obtain ⟨rfl, rfl⟩ := okI e; exact ih _ _ hx trivial
              · cases e
          · split at e
            · exact ih _ _ e trivial
            · exact lit_shp T ih e
      | una i d =>
        simp only [stepW] at e
        obtain ⟨x, k, hx, e⟩ := ok_of e
        exact (ih _ _ e (ih _ _ hx trivial)).1
      | bin i d =>
        simp only [stepW] at e
        obtain ⟨x, k, hx, e⟩ := ok_of e
        exact (ih _ _ e (ih _ _ hx trivial)).1
      | casc i d =>
        simp only [stepW] at e
        obtain ⟨x, k, hx, e⟩ := ok_of e
        obtain ⟨z, l, hz, e⟩ := ok_of e
        have hZ := ih _ _ hz (ih _ _ hx trivial)
        split at e
        · split at e
          · cases e
          · rename_i hne
            have h7 : z.kind = 7 := hZ.2.elim (fun h => absurd h.2 hne) id
            exact (ih _ _ e ⟨hZ.1.casc h7, any4_mk 8 (by decide)⟩).1
        · obtain ⟨rfl, rfl⟩ := okI e; exact hZ.1
      | msg i d =>
        simp only [stepW] at e
        split at e
        · rename_i h1
          obtain ⟨rfl, _⟩ := okI e
          exact ⟨.msg (T.byt i) (T.name i h1) (fun _ h => absurd h List.not_mem_nil), rfl⟩
        · split at e
          · rename_i h3
            obtain ⟨x, k, hx, e⟩ := ok_of e
            obtain ⟨rfl, _⟩ := okI e
            exact ⟨.msg (T.byt i) (T.sign i h3) (fun z hz => by rw [List.mem_singleton.1 hz]; exact ih _ _ hx trivial), rfl⟩
          · split at e
            · exact ih _ _ e ⟨rfl, rfl, fun _ h => absurd h List.not_mem_nil, ⟨.inl rfl, rfl⟩, fun _ h => absurd h List.not_mem_nil⟩
            · cases e
      | list i d =>
        simp only [stepW] at e
        split at e
        · cases e
        · exact (ih _ _ e ⟨.leaf (fun _ h => absurd h List.not_mem_nil) (by decide) (by decide) (by decide) (by decide), (any4_mk _ (by decide))⟩).1
      | elem i d =>
        simp only [stepW] at e
        split at e
        · obtain ⟨rfl, _⟩ := okI e
          split <;> exact Shp.leaf (T.byt i) (by decide) (by decide) (by decide) (by decide)
        · split at e
          · obtain ⟨rfl, _⟩ := okI e; exact Shp.leaf (T.byt i) (by decide) (by decide) (by decide) (by decide)
          · split at e
            · exact ih _ _ e trivial
            · exact lit_shp T ih e
      | block i d =>
        simp only [stepW] at e
        split at e
        · cases e
        · obtain ⟨x, k, hx, e⟩ := ok_of e
          obtain ⟨z, l, hz, e⟩ := ok_of e
          have hX := ih _ _ hx ⟨.leaf (fun _ h => absurd h List.not_mem_nil) (by decide) (by decide) (by decide) (by decide), (any4_mk _ (by decide))⟩
          split at e
          · obtain ⟨rfl, _⟩ := okI e
            exact (ih _ _ hz ⟨hX.1, any4_of (x := .mk 10 [] (psW W i) 0 [] []) (any4_mk _ (by decide)) hX.2⟩).1
          · cases e
      | stmt i d =>
        simp only [stepW] at e
        split at e
        · obtain ⟨x, k, hx, e⟩ := ok_of e
          obtain ⟨rfl, _⟩ := okI e
          exact Shp.ret (fun _ h => absurd h List.not_mem_nil) (ih _ _ hx trivial)
        · exact ih _ _ e trivial
      | unaOf i d x =>
        simp only [stepW] at e
        split at e
        · rename_i h1
          have h := ih _ _ e (Shp.sent hp (.msg (T.byt i) (T.name i h1) (fun _ h => absurd h List.not_mem_nil)) rfl)
          exact ⟨h.1, .inr (h.2.elim (fun h => by rw [h.1]; rfl) id)⟩
        · obtain ⟨rfl, rfl⟩ := okI e; exact ⟨hp, .inl ⟨rfl, rfl⟩⟩
      | binOf i d x =>
        simp only [stepW] at e
        split at e
        · rename_i h3
          obtain ⟨z, k, hz, e⟩ := ok_of e
          have h := ih _ _ e (Shp.sent hp (.msg (T.byt i) (T.sign i h3) (fun t ht => by rw [List.mem_singleton.1 ht]; exact ih _ _ hz trivial)) rfl)
          exact ⟨h.1, .inr (h.2.elim (fun h => by rw [h.1]; rfl) id)⟩
        · obtain ⟨rfl, rfl⟩ := okI e; exact ⟨hp, .inl ⟨rfl, rfl⟩⟩
      | keyOf i d x =>
        simp only [stepW] at e
        obtain ⟨z, k, hz, e⟩ := ok_of e
        obtain ⟨t, l, ht, e⟩ := ok_of e
        have hZ := ih _ _ hz hp
        have hT := ih _ _ ht hZ.1
        split at e
        · obtain ⟨m, o, hm, e⟩ := ok_of e
          obtain ⟨rfl, rfl⟩ := okI e
          have hM := ih _ _ hm ⟨rfl, rfl, fun _ h => absurd h List.not_mem_nil, ⟨.inl rfl, rfl⟩, fun _ h => absurd h List.not_mem_nil⟩
          exact ⟨.sent hT.1 hM.1 hM.2, .inr rfl⟩
        · obtain ⟨rfl, rfl⟩ := okI e
          refine ⟨hT.1, ?_⟩
          rcases hT.2 with ⟨rfl, rfl⟩ | h
          · exact hZ.2
          · exact .inr h
      | keys i d x =>
        obtain ⟨h9, hn, hb, hk, hs⟩ := hp
        simp only [stepW] at e
        split at e
        · rename_i h2
          obtain ⟨z, k, hz, e⟩ := ok_of e
          refine ih _ _ e ⟨h9, hn, fun c hc => (List.mem_append.1 hc).elim (hb c) (T.byt i c), ?_, ?_⟩
          · have := hk.more T h2
            show KeyT (x.text ++ txW W i) (x.kids ++ [z]).length
            rw [List.length_append]; exact this
          · intro t ht
            rcases List.mem_append.1 ht with h | h
            · exact hs t h
            · rw [List.mem_singleton.1 h]; exact ih _ _ hz trivial
        · obtain ⟨rfl, rfl⟩ := okI e
          refine ⟨?_, h9⟩
          cases x with
          | mk k t p n l kids =>
            have h9 : k = 9 := h9
            have hn : n = 0 := hn
            subst h9 hn
            exact .mk _ _ _ _ _ _ (fun h => absurd h (by decide)) (fun _ => hk.args) (fun h => absurd h (by decide)) (fun h => absurd h (by decide)) (Nat.zero_le _) hb hs
      | others i d x =>
        simp only [stepW] at e
        split at e
        · obtain ⟨z, k, hz, e⟩ := ok_of e
          exact ih _ _ e ⟨hp.1.kid hp.2 (ih _ _ hz trivial).1, hp.2⟩
        · obtain ⟨rfl, rfl⟩ := okI e; exact ⟨hp.1, rfl⟩
      | elems i d x =>
        simp only [stepW] at e
        split at e
        · obtain ⟨rfl, rfl⟩ := okI e; exact ⟨hp.1, rfl⟩
        · obtain ⟨z, k, hz, e⟩ := ok_of e
          exact ih _ _ e ⟨hp.1.kid hp.2 (ih _ _ hz trivial), hp.2⟩
      | args i d x =>
        simp only [stepW] at e
        split at e
        · split at e
          · exact ih _ _ e ⟨hp.1.arg hp.2, hp.2⟩
          · cases e
        · split at e
          · obtain ⟨rfl, rfl⟩ := okI e; exact ⟨hp.1, rfl⟩
          · split at e
            · obtain ⟨rfl, rfl⟩ := okI e; exact ⟨hp.1, rfl⟩
            · cases e
      | temps i d x =>
        simp only [stepW] at e
        split at e
        · exact ih _ _ e ⟨hp.1.tmp hp.2, hp.2⟩
        · split at e
          · obtain ⟨rfl, rfl⟩ := okI e; exact ⟨hp.1, rfl, rfl, rfl⟩
          · cases e
      | body i d x =>
        simp only [stepW] at e
        split at e
        · obtain ⟨z, k, hz, e⟩ := ok_of e
          obtain ⟨z1, z2, z3, z4⟩ := ih _ _ hz hp
          obtain ⟨y1, y2, y3, y4⟩ := ih _ _ e ⟨z1, any4_of hp.2 z2⟩
          exact ⟨y1, y2.trans z2, y3.trans z3, y4.trans z4⟩
        · exact ih _ _ e hp
      | stmts i d x =>
        simp only [stepW] at e
        split at e
        · obtain ⟨rfl, rfl⟩ := okI e; exact ⟨hp.1, rfl, rfl, rfl⟩
        · obtain ⟨z, k, hz, e⟩ := ok_of e
          have hk := hp.1.kid hp.2 (ih _ _ hz trivial)
          split at e
          · split at e
            · obtain ⟨rfl, rfl⟩ := okI e; exact ⟨hk, rfl, rfl, rfl⟩
            · exact ih _ _ e ⟨hk, hp.2⟩
          · obtain ⟨rfl, rfl⟩ := okI e; exact ⟨hk, rfl, rfl, rfl⟩
      | pat i d x =>
        obtain ⟨h1, h2, h3, h4⟩ := hp
        simp only [stepW] at e
        split at e
        · rename_i hk
          obtain ⟨rfl, rfl⟩ := okI e
          refine ⟨Shp.say2 T i h1 h2, rfl, ?_⟩
          show x.n = argsL (x.text ++ txW W i)
          rw [h3, List.nil_append, h4, T.name i hk]
        · split at e
          · rename_i hk
            split at e
            · obtain ⟨rfl, rfl⟩ := okI e
              refine ⟨(Shp.say2 T i h1 h2).arg h2, rfl, ?_⟩
              show x.n + 1 = argsL (x.text ++ txW W i)
              rw [h3, List.nil_append, h4, T.sign i hk]
            · cases e
          · split at e
            · exact ih _ _ e ⟨h1, h2, by rw [h3, h4]; exact ⟨.inl rfl, rfl⟩⟩
            · cases e
      | keyP i d x =>
        obtain ⟨h1, h2, h3⟩ := hp
        simp only [stepW] at e
        split at e
        · rename_i hk
          split at e
          · exact ih _ _ e ⟨(Shp.say2 T i h1 h2).arg h2, h2, h3.more T hk⟩
          · cases e
        · obtain ⟨rfl, rfl⟩ := okI e
          exact ⟨h1, rfl, h3.args.symm⟩
end Go.Proofs.YtncfmhlikmibaaaGreatDoor
