/- Words as a tree: the grammar, as a plain function with fuel. -/
import Derived.Test.YtoghhjljmhdioaaLexM
namespace Go.Proofs.Ytoghhjljmhdioaa
/-- A part of a source: kind, text, place, how many names are arguments, names, parts. -/
inductive Nd where
  | mk (kind : Int) (text : List Int) (pos : Nat) (n : Nat) (names : List (List Int)) (kids : List Nd)
def Nd.kind : Nd → Int | mk k _ _ _ _ _ => k
def Nd.text : Nd → List Int | mk _ t _ _ _ _ => t
def Nd.pos : Nd → Nat | mk _ _ p _ _ _ => p
def Nd.n : Nd → Nat | mk _ _ _ n _ _ => n
def Nd.names : Nd → List (List Int) | mk _ _ _ _ l _ => l
def Nd.kids : Nd → List Nd | mk _ _ _ _ _ l => l
def Nd.kid (x : Nd) (k : Nd) : Nd := .mk x.kind x.text x.pos x.n x.names (x.kids ++ [k])
def Nd.tmp (x : Nd) (t : List Int) : Nd := .mk x.kind x.text x.pos x.n (x.names ++ [t]) x.kids
def Nd.arg (x : Nd) (t : List Int) : Nd := .mk x.kind x.text x.pos (x.n + 1) (x.names ++ [t]) x.kids
def Nd.say (x : Nd) (t : List Int) : Nd := .mk x.kind (x.text ++ t) x.pos x.n x.names x.kids
/-- A message that goes to a receiver. -/
def sentN (r m : Nd) : Nd := .mk 7 m.text m.pos 0 [] (r :: m.kids)
def msgN (t : List Int) (p : Nat) (l : List Nd) : Nd := .mk 9 t p 0 [] l
/-- The Send ahead of a Semi, as a cascade. -/
def cascN (s : Nd) : Nd := .mk 8 [] s.pos 0 [] [s.kids.headD (.mk 0 [] 0 0 [] []), msgN s.text s.pos s.kids.tail]
/-- What is read: a part and the place behind it; or the place where it can not be, and why. -/
inductive Rs where
  | ok (x : Nd) (j : Nat)
  | er (j : Nat) (e : Int)
def Rs.bind (r : Rs) (f : Nd → Nat → Option Rs) : Option Rs := match r with
  | .ok x j => f x j
  | .er j e => some (.er j e)
/-- What may be asked for: at a place, so deep. -/
inductive Qy where
  | expr (i d : Nat) | prim (i d : Nat) | una (i d : Nat) | bin (i d : Nat) | casc (i d : Nat) | msg (i d : Nat) | list (i d : Nat) | elem (i d : Nat) | block (i d : Nat) | stmt (i d : Nat)
  | unaOf (i d : Nat) (x : Nd) | binOf (i d : Nat) (x : Nd) | keyOf (i d : Nat) (x : Nd) | keys (i d : Nat) (x : Nd) | others (i d : Nat) (x : Nd) | elems (i d : Nat) (x : Nd)
  | args (i d : Nat) (x : Nd) | temps (i d : Nat) (x : Nd) | body (i d : Nat) (x : Nd) | stmts (i d : Nat) (x : Nd) | pat (i d : Nat) (x : Nd) | keyP (i d : Nat) (x : Nd)
def endT : Tk := ⟨0, [], 0⟩
def kdW (W : List Tk) (i : Nat) : Int := (W.getD i endT).kind
def txW (W : List Tk) (i : Nat) : List Int := (W.getD i endT).text
def psW (W : List Tk) (i : Nat) : Nat := (W.getD i endT).pos
def leafW (W : List Tk) (k : Int) (i : Nat) : Nd := .mk k (txW W i) (psW W i) 0 [] []
def trueT : List Int := [116, 114, 117, 101]
def falseT : List Int := [102, 97, 108, 115, 101]
def nilT : List Int := [110, 105, 108]
/-- What is the same within a list and outside of one. -/
def litW (W : List Tk) (i d : Nat) (q : Qy → Option Rs) : Option Rs :=
  if kdW W i = 4 then some (.ok (leafW W 1 i) (i + 1))
  else if kdW W i = 5 then some (.ok (leafW W 2 i) (i + 1))
  else if kdW W i = 6 then some (.ok (leafW W 3 i) (i + 1))
  else if kdW W i = 17 then q (.list i d)
  else some (.er i 20)
def stepW (W : List Tk) (q : Qy → Option Rs) : Qy → Option Rs
  | .expr i d =>
    if kdW W i = 1 ∧ kdW W (i + 1) = 7 then
      (if d = 40 then some (.er (i + 1) 3) else (q (.expr (i + 2) (d + 1))).bind fun r => r.bind fun x j => some (.ok (.mk 6 (txW W i) (psW W i) 0 [] [x]) j))
    else q (.casc i d)
  | .casc i d => (q (.prim i d)).bind fun r => r.bind fun x j => (q (.keyOf j d x)).bind fun r => r.bind fun y k =>
      if kdW W k = 15 then (if k = j then some (.er k 20) else q (.others k d (cascN y))) else some (.ok y k)
  | .others i d x => if kdW W i = 15 then (q (.msg (i + 1) d)).bind fun r => r.bind fun m j => q (.others j d (x.kid m)) else some (.ok x i)
  | .msg i d =>
    if kdW W i = 1 then some (.ok (msgN (txW W i) (psW W i) []) (i + 1))
    else if kdW W i = 3 then (q (.una (i + 1) d)).bind fun r => r.bind fun a j => some (.ok (msgN (txW W i) (psW W i) [a]) j)
    else if kdW W i = 2 then q (.keys i d (msgN [] (psW W i) []))
    else some (.er i 20)
  | .keys i d x => if kdW W i = 2 then (q (.bin (i + 1) d)).bind fun r => r.bind fun a j => q (.keys j d ((x.say (txW W i)).kid a)) else some (.ok x i)
  | .keyOf i d x => (q (.unaOf i d x)).bind fun r => r.bind fun y j => (q (.binOf j d y)).bind fun r => r.bind fun z k =>
      if kdW W k = 2 then (q (.keys k d (msgN [] (psW W k) []))).bind fun r => r.bind fun m l => some (.ok (sentN z m) l) else some (.ok z k)
  | .unaOf i d x => if kdW W i = 1 then q (.unaOf (i + 1) d (sentN x (msgN (txW W i) (psW W i) []))) else some (.ok x i)
  | .binOf i d x => if kdW W i = 3 then (q (.una (i + 1) d)).bind fun r => r.bind fun a j => q (.binOf j d (sentN x (msgN (txW W i) (psW W i) [a]))) else some (.ok x i)
  | .bin i d => (q (.una i d)).bind fun r => r.bind fun x j => q (.binOf j d x)
  | .una i d => (q (.prim i d)).bind fun r => r.bind fun x j => q (.unaOf j d x)
  | .prim i d =>
    if kdW W i = 1 then some (.ok (leafW W 5 i) (i + 1))
    else if kdW W i = 8 then
      (if d = 40 then some (.er i 3) else (q (.expr (i + 1) (d + 1))).bind fun r => r.bind fun x j => if kdW W j = 9 then some (.ok x (j + 1)) else some (.er j 20))
    else if kdW W i = 10 then q (.block i d)
    else litW W i d q
  | .list i d => if d = 40 then some (.er i 3) else q (.elems (i + 1) (d + 1) (.mk 4 [] (psW W i) 0 [] []))
  | .elems i d x => if kdW W i = 9 then some (.ok x (i + 1)) else (q (.elem i d)).bind fun r => r.bind fun y j => q (.elems j d (x.kid y))
  | .elem i d =>
    if kdW W i = 1 then some (.ok (leafW W (if txW W i = trueT ∨ txW W i = falseT ∨ txW W i = nilT then 13 else 3) i) (i + 1))
    else if kdW W i = 2 ∨ kdW W i = 3 then some (.ok (leafW W 3 i) (i + 1))
    else if kdW W i = 8 then q (.list i d)
    else litW W i d q
  | .block i d =>
    if d = 40 then some (.er i 3) else (q (.args (i + 1) (d + 1) (.mk 10 [] (psW W i) 0 [] []))).bind fun r => r.bind fun x j => (q (.body j (d + 1) x)).bind fun r => r.bind fun y k =>
      if kdW W k = 11 then some (.ok y (k + 1)) else some (.er k 20)
  | .args i d x =>
    if kdW W i = 16 then (if kdW W (i + 1) = 1 then q (.args (i + 2) d (x.arg (txW W (i + 1)))) else some (.er (i + 1) 20))
    else if x.n = 0 ∨ kdW W i = 11 then some (.ok x i)
    else if kdW W i = 12 then some (.ok x (i + 1))
    else some (.er i 20)
  | .temps i d x => if kdW W i = 1 then q (.temps (i + 1) d (x.tmp (txW W i))) else if kdW W i = 12 then some (.ok x (i + 1)) else some (.er i 20)
  | .body i d x => if kdW W i = 12 then (q (.temps (i + 1) d x)).bind fun r => r.bind fun y j => q (.stmts j d y) else q (.stmts i d x)
  | .stmts i d x =>
    if kdW W i = 0 ∨ kdW W i = 11 then some (.ok x i)
    else (q (.stmt i d)).bind fun r => r.bind fun y j =>
      if kdW W j = 14 then (if y.kind = 11 then some (.ok (x.kid y) (j + 1)) else q (.stmts (j + 1) d (x.kid y))) else some (.ok (x.kid y) j)
  | .stmt i d => if kdW W i = 13 then (q (.expr (i + 1) d)).bind fun r => r.bind fun x j => some (.ok (.mk 11 [] (psW W i) 0 [] [x]) j) else q (.expr i d)
  | .pat i d x =>
    if kdW W i = 1 then some (.ok (x.say (txW W i)) (i + 1))
    else if kdW W i = 3 then (if kdW W (i + 1) = 1 then some (.ok ((x.say (txW W i)).arg (txW W (i + 1))) (i + 2)) else some (.er (i + 1) 20))
    else if kdW W i = 2 then q (.keyP i d x)
    else some (.er i 20)
  | .keyP i d x =>
    if kdW W i = 2 then (if kdW W (i + 1) = 1 then q (.keyP (i + 2) d ((x.say (txW W i)).arg (txW W (i + 1)))) else some (.er (i + 1) 20))
    else some (.ok x i)
def runW (W : List Tk) : Nat → Qy → Option Rs
  | 0 => fun _ => none
  | f + 1 => stepW W (runW W f)
/-- More is known, and nothing else. -/
def LeQ (p q : Qy → Option Rs) : Prop := ∀ a r, p a = some r → q a = some r
theorem bind_le {p q : Qy → Option Rs} (h : LeQ p q) {a : Qy} {f g : Rs → Option Rs} (hf : ∀ x r, f x = some r → g x = some r) {r : Rs} (e : (p a).bind f = some r) : (q a).bind g = some r := by
  cases hp : p a with
  | none => rw [hp] at e; cases e
  | some x => rw [hp] at e; rw [h a x hp]; exact hf x r e
theorem rs_le {x : Rs} {f g : Nd → Nat → Option Rs} (hf : ∀ y j r, f y j = some r → g y j = some r) {r : Rs} (e : x.bind f = some r) : x.bind g = some r := by
  cases x with
  | ok y j => exact hf y j r e
  | er j c => exact e
theorem lit_le {W : List Tk} {i d : Nat} {p q : Qy → Option Rs} (h : LeQ p q) {r : Rs} (e : litW W i d p = some r) : litW W i d q = some r := by
  unfold litW at e ⊢
  repeat' split at e
  all_goals first
    | (rw [if_pos ‹_›]; exact e)
    | skip
  all_goals simp_all [LeQ]
theorem step_mono (W : List Tk) {p q : Qy → Option Rs} (h : LeQ p q) : LeQ (stepW W p) (stepW W q) := by
  intro a r e
  cases a
  all_goals simp only [stepW] at e ⊢
  all_goals repeat' first
    | exact e
    | exact h _ _ e
    | exact lit_le h e
    | (refine bind_le h ?_ e; clear e; intro x r e)
    | (refine rs_le ?_ e; clear e; intro y j r e)
    | (split at e <;> rename_i hc <;> first | rw [if_pos hc] | rw [if_neg hc])
theorem run_mono (W : List Tk) (f : Nat) : LeQ (runW W f) (runW W (f + 1)) := by
  induction f with
  | zero => intro a r e; cases e
  | succ f ih => exact step_mono W ih
theorem run_le (W : List Tk) {f g : Nat} (h : f ≤ g) : LeQ (runW W f) (runW W g) := by
  induction h with
  | refl => intro a r e; exact e
  | step _ ih => intro a r e; exact run_mono W _ a r (ih a r e)
/-- What is read there. -/
def Reads (W : List Tk) (a : Qy) (r : Rs) : Prop := ∃ f, runW W f a = some r
theorem Reads.det {W : List Tk} {a : Qy} {r s : Rs} (h : Reads W a r) (h' : Reads W a s) : r = s := by
  obtain ⟨f, hf⟩ := h
  obtain ⟨g, hg⟩ := h'
  have e1 := run_le W (Nat.le_max_left f g) a r hf
  have e2 := run_le W (Nat.le_max_right f g) a s hg
  rw [e1] at e2
  exact Option.some.inj e2
/-- The grammar's step, where all that it asks for is read. -/
theorem Reads.step {W : List Tk} {a : Qy} {r : Rs} (q : Qy → Option Rs) (hq : ∃ f, LeQ q (runW W f)) (h : stepW W q a = some r) : Reads W a r := by
  obtain ⟨f, hf⟩ := hq
  exact ⟨f + 1, step_mono W hf a r h⟩
theorem Reads.common {W : List Tk} {a b : Qy} {r s : Rs} (h : Reads W a r) (h' : Reads W b s) : ∃ f, runW W f a = some r ∧ runW W f b = some s := by
  obtain ⟨f, hf⟩ := h
  obtain ⟨g, hg⟩ := h'
  exact ⟨max f g, run_le W (Nat.le_max_left f g) a r hf, run_le W (Nat.le_max_right f g) b s hg⟩
theorem Reads.of {W : List Tk} {a : Qy} {r : Rs} {f : Nat} (h : stepW W (runW W f) a = some r) : Reads W a r := ⟨f + 1, h⟩
theorem Reads.none {W : List Tk} {a : Qy} {r : Rs} (h : stepW W (runW W 0) a = some r) : Reads W a r := ⟨1, h⟩
theorem Reads.back {W : List Tk} {a : Qy} {r : Rs} (h : Reads W a r) : ∃ f, stepW W (runW W f) a = some r := by
  obtain ⟨f, hf⟩ := h
  cases f with
  | zero => cases hf
  | succ f => exact ⟨f, hf⟩
/-- Where something is asked for; whether it takes a word. -/
def Qy.place : Qy → Nat
  | .expr i _ | .prim i _ | .una i _ | .bin i _ | .casc i _ | .msg i _ | .list i _ | .elem i _ | .block i _ | .stmt i _ => i
  | .unaOf i _ _ | .binOf i _ _ | .keyOf i _ _ | .keys i _ _ | .others i _ _ | .elems i _ _ | .args i _ _ | .temps i _ _ | .body i _ _ | .stmts i _ _ | .pat i _ _ | .keyP i _ _ => i
def Qy.takes : Qy → Nat
  | .expr _ _ | .prim _ _ | .una _ _ | .bin _ _ | .casc _ _ | .list _ _ | .elem _ _ | .block _ _ | .stmt _ _ => 1
  | _ => 0
def Qy.asks : Qy → Nat
  | .list _ _ | .block _ _ => 1
  | _ => 0
/-- It goes on, and never behind the end. -/
def Adv (E : Nat) (a : Qy) : Rs → Prop
  | .ok _ j => a.place + a.asks ≤ E → a.place + a.takes ≤ j ∧ j ≤ E
  | .er j _ => a.place + a.asks ≤ E → a.place ≤ j ∧ j ≤ E
theorem bindE {o : Option Rs} {f : Rs → Option Rs} {r : Rs} (e : o.bind f = some r) : ∃ x, o = some x ∧ f x = some r := by
  cases o with
  | none => cases e
  | some x => exact ⟨x, rfl, e⟩
theorem rsE {x : Rs} {f : Nd → Nat → Option Rs} {r : Rs} (e : x.bind f = some r) : (∃ j c, x = .er j c ∧ r = .er j c) ∨ (∃ y j, x = .ok y j ∧ f y j = some r) := by
  cases x with
  | ok y j => exact .inr ⟨y, j, rfl, e⟩
  | er j c => exact .inl ⟨j, c, rfl, (Option.some.inj e).symm⟩
structure EndAt (W : List Tk) (E : Nat) : Prop where
  len : E + 1 = W.length
  last : kdW W E = 0
  more : ∀ m, m < E → kdW W m ≠ 0
theorem EndAt.lt {W : List Tk} {E : Nat} (h : EndAt W E) {m : Nat} (hm : kdW W m ≠ 0) : m < E := by
  have h1 := h.len
  rcases Nat.lt_trichotomy m E with h2 | h2 | h2
  · exact h2
  · subst h2; exact absurd h.last hm
  · refine absurd ?_ hm
    unfold kdW
    rw [List.getD_eq_getElem?_getD, List.getElem?_eq_none (by omega)]
    rfl
set_option maxHeartbeats 4000000 in
theorem run_adv {W : List Tk} {E : Nat} (hE : EndAt W E) (f : Nat) : ∀ a r, runW W f a = some r → Adv E a r := by
  induction f with
  | zero => intro a r e; cases e
  | succ f ih =>
    intro a r e
    have e : stepW W (runW W f) a = some r := e
    have hk : ∀ {m : Nat} {c : Int}, kdW W m = c → c ≠ 0 → m < E := fun h1 h2 => hE.lt (by rw [h1]; exact h2)
    cases r
    all_goals cases a
    all_goals simp only [stepW, litW] at e
    all_goals repeat' first
      | (have hx := ih _ _ e; clear e)
      | (obtain ⟨x, hx, e'⟩ := bindE e; clear e; have hx' := ih _ _ hx; clear hx; rcases rsE e' with ⟨j, c, rfl, hr⟩ | ⟨y, j, rfl, e⟩ <;> clear e' <;> (try (cases hr)))
      | (split at e <;> rename_i hc <;> (try have hl := hk hc (by decide)) <;> (try have hl1 := hk hc.1 (by decide)) <;> (try have hl2 := hk hc.2 (by decide)) <;> (try have hl3 := hc.elim (fun h => hk h (by decide)) (fun h => hk h (by decide))))
      | (have e' := Option.some.inj e; clear e; cases e')
    all_goals clear hk ih hE
    all_goals simp only [Adv, Qy.place, Qy.takes, Qy.asks] at *
    all_goals omega
theorem Reads.adv {W : List Tk} {E : Nat} (hE : EndAt W E) {a : Qy} {r : Rs} (h : Reads W a r) : Adv E a r := by
  obtain ⟨f, hf⟩ := h
  exact run_adv hE f a r hf
end Go.Proofs.Ytoghhjljmhdioaa
