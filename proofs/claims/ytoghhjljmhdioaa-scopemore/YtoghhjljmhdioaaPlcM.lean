/- Each name of a tree stands in the source at its place: reckoned. -/
import Derived.Test.YtoghhjljmhdioaaTreM
import Derived.Test.YtoghhjljmhdioaaLexP
namespace Go.Proofs.Ytoghhjljmhdioaa
/-- A text that a source has at a place. -/
def Stands (ss : List Int) (p : Nat) (t : List Int) : Prop := p + t.length ≤ ss.length ∧ (ss.drop p).take t.length = t
/-- Each name that is used or set stands at its place. -/
inductive Plc (ss : List Int) : Nd → Prop where
  | mk (k : Int) (t : List Int) (p n : Nat) (l : List (List Int)) (kids : List Nd) (h5 : k = 5 ∨ k = 6 → Stands ss p t) (hk : ∀ y ∈ kids, Plc ss y) : Plc ss (.mk k t p n l kids)
theorem Plc.kidsOf {ss : List Int} {x : Nd} (h : Plc ss x) : ∀ y ∈ x.kids, Plc ss y := by cases h; assumption
theorem Plc.here {ss : List Int} {x : Nd} (h : Plc ss x) (hk : x.kind = 5 ∨ x.kind = 6) : Stands ss x.pos x.text := by
  cases h with
  | mk k t p n l kids a b => exact a hk
/-- No name itself. -/
def No5 (x : Nd) : Prop := x.kind ≠ 5 ∧ x.kind ≠ 6
theorem Plc.no {ss : List Int} {k : Int} {t : List Int} {p n : Nat} {l : List (List Int)} {kids : List Nd} (h5 : k ≠ 5) (h6 : k ≠ 6) (hk : ∀ y ∈ kids, Plc ss y) : Plc ss (.mk k t p n l kids) :=
  .mk _ _ _ _ _ _ (fun h => h.elim (fun h => absurd h h5) (fun h => absurd h h6)) hk
theorem Plc.leaf {ss : List Int} {k : Int} {t : List Int} {p n : Nat} {l : List (List Int)} (h5 : k ≠ 5) (h6 : k ≠ 6) : Plc ss (.mk k t p n l []) := .no h5 h6 (fun _ h => absurd h List.not_mem_nil)
theorem Plc.kid {ss : List Int} {x y : Nd} (h : Plc ss x) (hy : Plc ss y) : Plc ss (x.kid y) :=
  .mk _ _ _ _ _ _ (fun hk => h.here hk) (fun z hz => (List.mem_append.1 hz).elim (h.kidsOf z) (fun e => by rw [List.mem_singleton.1 e]; exact hy))
theorem Plc.tmp {ss : List Int} {x : Nd} {t : List Int} (h : Plc ss x) : Plc ss (x.tmp t) := .mk _ _ _ _ _ _ (fun hk => h.here hk) h.kidsOf
theorem Plc.arg {ss : List Int} {x : Nd} {t : List Int} (h : Plc ss x) : Plc ss (x.arg t) := .mk _ _ _ _ _ _ (fun hk => h.here hk) h.kidsOf
theorem Plc.say {ss : List Int} {x : Nd} {t : List Int} (h : Plc ss x) (hn : No5 x) : Plc ss (x.say t) := .no hn.1 hn.2 h.kidsOf
theorem Plc.sent {ss : List Int} {r m : Nd} (hr : Plc ss r) (hm : Plc ss m) : Plc ss (sentN r m) :=
  .no (by decide) (by decide) (fun y hy => (List.mem_cons.1 hy).elim (fun e => e ▸ hr) (fun e => hm.kidsOf y e))
theorem Plc.msg {ss : List Int} {t : List Int} {p : Nat} {l : List Nd} (h : ∀ x ∈ l, Plc ss x) : Plc ss (msgN t p l) := .no (by decide) (by decide) h
theorem no5_msg {t : List Int} {p : Nat} {l : List Nd} : No5 (msgN t p l) := ⟨fun h => absurd (show (9 : Int) = 5 from h) (by decide), fun h => absurd (show (9 : Int) = 6 from h) (by decide)⟩
theorem Plc.casc {ss : List Int} {s : Nd} (h : Plc ss s) : Plc ss (cascN s) := by
  have hk := h.kidsOf
  refine .no (by decide) (by decide) (fun y hy => ?_)
  cases hs : s.kids with
  | nil =>
    rw [hs] at hy
    rcases List.mem_cons.1 hy with rfl | hy
    · exact .leaf (by decide) (by decide)
    · rw [List.mem_singleton.1 hy]
      exact .msg (fun z hz => absurd hz List.not_mem_nil)
  | cons r m =>
    rw [hs] at hy hk
    rcases List.mem_cons.1 hy with rfl | hy
    · exact hk _ (List.mem_cons_self ..)
    · rw [List.mem_singleton.1 hy]
      exact .msg (fun z hz => hk z (List.mem_cons_of_mem _ hz))
def PreP (ss : List Int) : Qy → Prop
  | .unaOf _ _ x | .binOf _ _ x | .keyOf _ _ x => Plc ss x
  | .others _ _ x | .elems _ _ x | .args _ _ x | .temps _ _ x | .body _ _ x | .stmts _ _ x => Plc ss x
  | .keys _ _ x | .pat _ _ x | .keyP _ _ x => Plc ss x ∧ No5 x
  | _ => True
def PlcR (ss : List Int) : Rs → Prop
  | .ok y _ => Plc ss y
  | .er _ _ => True
theorem okP {o : Option Rs} {f : Nd → Nat → Option Rs} {y : Nd} {j : Nat} (e : o.bind (fun r => r.bind f) = some (.ok y j)) : ∃ x k, o = some (.ok x k) ∧ f x k = some (.ok y j) := by
  obtain ⟨x, hx, e'⟩ := bindE e
  rcases rsE e' with ⟨_, _, _, h⟩ | ⟨x', k, rfl, h⟩
  · cases h
  · exact ⟨x', k, hx, h⟩
theorem okJ {x y : Nd} {i j : Nat} (h : (some (Rs.ok x i) : Option Rs) = some (.ok y j)) : x = y ∧ i = j := by cases h; exact ⟨rfl, rfl⟩
theorem lit_plc {W : List Tk} {ss : List Int} {q : Qy → Option Rs} {i d j : Nat} {y : Nd} (ih : ∀ a r, q a = some r → PreP ss a → PlcR ss r) (e : litW W i d q = some (.ok y j)) : Plc ss y := by
  unfold litW at e
  split at e
  · obtain ⟨rfl, _⟩ := okJ e; exact .leaf (by decide) (by decide)
  · split at e
    · obtain ⟨rfl, _⟩ := okJ e; exact .leaf (by decide) (by decide)
    · split at e
      · obtain ⟨rfl, _⟩ := okJ e; exact .leaf (by decide) (by decide)
      · split at e
        · exact ih _ _ e trivial
        · cases e
theorem run_plc {W : List Tk} {ss : List Int} (T : ∀ i, kdW W i = 1 → Stands ss (psW W i) (txW W i)) (f : Nat) : ∀ a r, runW W f a = some r → PreP ss a → PlcR ss r := by
  induction f with
  | zero => intro a r e; cases e
  | succ f ih =>
    intro a r e hp
    have e : stepW W (runW W f) a = some r := e
    cases r with
    | er j c => trivial
    | ok y j =>
      show Plc ss y
      cases a with
      | expr i d =>
        simp only [stepW] at e
        split at e
        · rename_i h1
          split at e
          · cases e
          · obtain ⟨x, k, hx, e⟩ := okP e
            obtain ⟨rfl, rfl⟩ := okJ e
            exact .mk _ _ _ _ _ _ (fun _ => T i h1.1) (fun z hz => by rw [List.mem_singleton.1 hz]; exact ih _ _ hx trivial)
        · exact ih _ _ e trivial
      | prim i d =>
        simp only [stepW] at e
        split at e
        · rename_i h1
          obtain ⟨rfl, _⟩ := okJ e
          exact .mk _ _ _ _ _ _ (fun _ => T i h1) (fun _ h => absurd h List.not_mem_nil)
        · split at e
          · split at e
            · cases e
            · obtain ⟨x, k, hx, e⟩ := okP e
              split at e
              · obtain ⟨rfl, rfl⟩ := okJ e; exact ih _ _ hx trivial
              · cases e
          · split at e
            · exact ih _ _ e trivial
            · exact lit_plc ih e
      | una i d =>
        simp only [stepW] at e
        obtain ⟨x, k, hx, e⟩ := okP e
        exact ih _ _ e (ih _ _ hx trivial)
      | bin i d =>
        simp only [stepW] at e
        obtain ⟨x, k, hx, e⟩ := okP e
        exact ih _ _ e (ih _ _ hx trivial)
      | casc i d =>
        simp only [stepW] at e
        obtain ⟨x, k, hx, e⟩ := okP e
        obtain ⟨z, l, hz, e⟩ := okP e
        have hZ : Plc ss z := ih _ _ hz (ih _ _ hx trivial)
        split at e
        · split at e
          · cases e
          · exact ih _ _ e hZ.casc
        · obtain ⟨rfl, rfl⟩ := okJ e; exact hZ
      | msg i d =>
        simp only [stepW] at e
        split at e
        · obtain ⟨rfl, _⟩ := okJ e
          exact .msg (fun _ h => absurd h List.not_mem_nil)
        · split at e
          · obtain ⟨x, k, hx, e⟩ := okP e
            obtain ⟨rfl, _⟩ := okJ e
            exact .msg (fun z hz => by rw [List.mem_singleton.1 hz]; exact ih _ _ hx trivial)
          · split at e
            · exact ih _ _ e ⟨.msg (fun _ h => absurd h List.not_mem_nil), no5_msg⟩
            · cases e
      | list i d =>
        simp only [stepW] at e
        split at e
        · cases e
        · exact ih _ _ e (.leaf (by decide) (by decide))
      | elem i d =>
        simp only [stepW] at e
        split at e
        · obtain ⟨rfl, _⟩ := okJ e
          split <;> exact .leaf (by decide) (by decide)
        · split at e
          · obtain ⟨rfl, _⟩ := okJ e; exact .leaf (by decide) (by decide)
          · split at e
            · exact ih _ _ e trivial
            · exact lit_plc ih e
      | block i d =>
        simp only [stepW] at e
        split at e
        · cases e
        · obtain ⟨x, k, hx, e⟩ := okP e
          obtain ⟨z, l, hz, e⟩ := okP e
          have hX : Plc ss x := ih _ _ hx (.leaf (by decide) (by decide))
          split at e
          · obtain ⟨rfl, _⟩ := okJ e
            exact ih _ _ hz hX
          · cases e
      | stmt i d =>
        simp only [stepW] at e
        split at e
        · obtain ⟨x, k, hx, e⟩ := okP e
          obtain ⟨rfl, _⟩ := okJ e
          exact .no (by decide) (by decide) (fun z hz => by rw [List.mem_singleton.1 hz]; exact ih _ _ hx trivial)
        · exact ih _ _ e trivial
      | unaOf i d x =>
        simp only [stepW] at e
        split at e
        · exact ih _ _ e (Plc.sent hp (.msg (fun _ h => absurd h List.not_mem_nil)))
        · obtain ⟨rfl, rfl⟩ := okJ e; exact hp
      | binOf i d x =>
        simp only [stepW] at e
        split at e
        · obtain ⟨z, k, hz, e⟩ := okP e
          exact ih _ _ e (Plc.sent hp (.msg (fun t ht => by rw [List.mem_singleton.1 ht]; exact ih _ _ hz trivial)))
        · obtain ⟨rfl, rfl⟩ := okJ e; exact hp
      | keyOf i d x =>
        simp only [stepW] at e
        obtain ⟨z, k, hz, e⟩ := okP e
        obtain ⟨t, l, ht, e⟩ := okP e
        have hZ : Plc ss z := ih _ _ hz hp
        have hT : Plc ss t := ih _ _ ht hZ
        split at e
        · obtain ⟨m, o, hm, e⟩ := okP e
          obtain ⟨rfl, rfl⟩ := okJ e
          exact .sent hT (ih _ _ hm ⟨.msg (fun _ h => absurd h List.not_mem_nil), no5_msg⟩)
        · obtain ⟨rfl, rfl⟩ := okJ e
          exact hT
      | keys i d x =>
        simp only [stepW] at e
        split at e
        · obtain ⟨z, k, hz, e⟩ := okP e
          exact ih _ _ e ⟨(Plc.say hp.1 hp.2).kid (ih _ _ hz trivial), hp.2⟩
        · obtain ⟨rfl, rfl⟩ := okJ e
          exact hp.1
      | others i d x =>
        simp only [stepW] at e
        split at e
        · obtain ⟨z, k, hz, e⟩ := okP e
          exact ih _ _ e (Plc.kid hp (ih _ _ hz trivial))
        · obtain ⟨rfl, rfl⟩ := okJ e; exact hp
      | elems i d x =>
        simp only [stepW] at e
        split at e
        · obtain ⟨rfl, rfl⟩ := okJ e; exact hp
        · obtain ⟨z, k, hz, e⟩ := okP e
          exact ih _ _ e (Plc.kid hp (ih _ _ hz trivial))
      | args i d x =>
        simp only [stepW] at e
        split at e
        · split at e
          · exact ih _ _ e (Plc.arg hp)
          · cases e
        · split at e
          · obtain ⟨rfl, rfl⟩ := okJ e; exact hp
          · split at e
            · obtain ⟨rfl, rfl⟩ := okJ e; exact hp
            · cases e
      | temps i d x =>
        simp only [stepW] at e
        split at e
        · exact ih _ _ e (Plc.tmp hp)
        · split at e
          · obtain ⟨rfl, rfl⟩ := okJ e; exact hp
          · cases e
      | body i d x =>
        simp only [stepW] at e
        split at e
        · obtain ⟨z, k, hz, e⟩ := okP e
          exact ih _ _ e (ih _ _ hz hp)
        · exact ih _ _ e hp
      | stmts i d x =>
        simp only [stepW] at e
        split at e
        · obtain ⟨rfl, rfl⟩ := okJ e; exact hp
        · obtain ⟨z, k, hz, e⟩ := okP e
          have hk : Plc ss (x.kid z) := Plc.kid hp (ih _ _ hz trivial)
          split at e
          · split at e
            · obtain ⟨rfl, rfl⟩ := okJ e; exact hk
            · exact ih _ _ e hk
          · obtain ⟨rfl, rfl⟩ := okJ e; exact hk
      | pat i d x =>
        obtain ⟨h1, h2⟩ := hp
        simp only [stepW] at e
        split at e
        · obtain ⟨rfl, rfl⟩ := okJ e
          exact h1.say h2
        · split at e
          · split at e
            · obtain ⟨rfl, rfl⟩ := okJ e
              exact (h1.say h2).arg
            · cases e
          · split at e
            · exact ih _ _ e ⟨h1, h2⟩
            · cases e
      | keyP i d x =>
        obtain ⟨h1, h2⟩ := hp
        simp only [stepW] at e
        split at e
        · split at e
          · exact ih _ _ e ⟨(h1.say h2).arg, h2⟩
          · cases e
        · obtain ⟨rfl, rfl⟩ := okJ e
          exact h1
theorem Reads.plc {W : List Tk} {ss : List Int} (T : ∀ i, kdW W i = 1 → Stands ss (psW W i) (txW W i)) {a : Qy} {y : Nd} {j : Nat} (h : Reads W a (.ok y j)) (hp : PreP ss a) : Plc ss y := by
  obtain ⟨f, hf⟩ := h
  exact run_plc T f _ _ hf hp
/-- The names of a source's words. -/
theorem toks_stand {rd : List Int → Bool} {ss : List Int} {W : List Tk} (h : lexR rd 0 ss = .ok W) : ∀ i, kdW W i = 1 → Stands ss (psW W i) (txW W i) := by
  intro i hi
  have hP := placed rd ss ss.length 0 W (by omega) (Nat.zero_le _) (by rw [List.drop_zero]; exact h)
  have hl : i < W.length := by
    rcases Nat.lt_or_ge i W.length with h | h
    · exact h
    · unfold kdW at hi
      rw [List.getD_eq_getElem?_getD, List.getElem?_eq_none h] at hi
      cases hi
  obtain ⟨_, _, _, _, hO, _⟩ := hP.at_ endT i hl
  have hk : (W.getD i endT).kind = 1 := hi
  obtain ⟨n, hn, hle, ht⟩ := hO (by rw [hk]; decide) (by rw [hk]; decide) (by rw [hk]; decide)
  have e : (txW W i).length = n := by
    show (W.getD i endT).text.length = n
    rw [ht, List.length_take, List.length_drop]
    omega
  refine ⟨?_, ?_⟩
  · rw [e]; exact hle
  · rw [e]; exact ht.symm
end Go.Proofs.Ytoghhjljmhdioaa
