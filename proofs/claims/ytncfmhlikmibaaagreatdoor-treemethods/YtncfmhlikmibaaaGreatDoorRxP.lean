/- The document's PlainName, PlainSymbol and Quote. -/
import Derived.Test.YtncfmhlikmibaaaGreatDoorLxB
import Derived.Test.YtncfmhlikmibaaaGreatDoorLxR
import Derived.Test.YtncfmhlikmibaaaGreatDoorLxQ
import Derived.Test.YtncfmhlikmibaaaGreatDoorRxB
namespace Go.Proofs.YtncfmhlikmibaaaGreatDoor
open Go.RowKit
set_option maxRecDepth 100000
set_option maxHeartbeats 16000000
section
inductive Nd where
 | mk (kind : Int) (text : List Int) (pos : Nat) (n : Nat) (names : List (List Int)) (kids : List Nd)
def Nd.kind : Nd → Int | mk k _ _ _ _ _ => k
def Nd.text : Nd → List Int | mk _ t _ _ _ _ => t
def Nd.pos : Nd → Nat | mk _ _ p _ _ _ => p
def Nd.n : Nd → Nat | mk _ _ _ n _ _ => n
def Nd.names : Nd → List (List Int) | mk _ _ _ _ l _ => l
def Nd.kids : Nd → List Nd | mk _ _ _ _ _ l => l
def Nd.kid (x : Nd) (k : Nd) : Nd := .mk x.kind x.text x.pos x.n x.names (x.kids ++ [k])
def Nd.tmp (x : Nd) (t : List Int) : Nd := .mk x.kind x.text x.pos x.n (x.names ++ [t]) x.kids
def Nd.arg (x : Nd) (t : List Int) : Nd := .mk x.kind x.text x.pos (x.n + 1) (x.names ++ [t]) x.kids
def Nd.say (x : Nd) (t : List Int) : Nd := .mk x.kind (x.text ++ t) x.pos x.n x.names x.kids
def Zat (r m : Nd) : Nd := .mk 7 m.text m.pos 0 [] (r :: m.kids)
def Zda (t : List Int) (p : Nat) (l : List Nd) : Nd := .mk 9 t p 0 [] l
def Zcw (s : Nd) : Nd := .mk 8 [] s.pos 0 [] [s.kids.headD (.mk 0 [] 0 0 [] []), Zda s.text s.pos s.kids.tail]
inductive Rs where
 | ok (x : Nd) (j : Nat)
 | er (j : Nat) (e : Int)
def Rs.bind (r : Rs) (f : Nd → Nat → Option Rs) : Option Rs := match r with
 | .ok x j => f x j
 | .er j e => some (.er j e)
inductive Qy where
 | expr (i d : Nat) | prim (i d : Nat) | una (i d : Nat) | bin (i d : Nat) | casc (i d : Nat) | msg (i d : Nat) | list (i d : Nat) | elem (i d : Nat) | block (i d : Nat) | stmt (i d : Nat)
 | unaOf (i d : Nat) (x : Nd) | binOf (i d : Nat) (x : Nd) | keyOf (i d : Nat) (x : Nd) | keys (i d : Nat) (x : Nd) | others (i d : Nat) (x : Nd) | elems (i d : Nat) (x : Nd)
 | args (i d : Nat) (x : Nd) | temps (i d : Nat) (x : Nd) | body (i d : Nat) (x : Nd) | stmts (i d : Nat) (x : Nd) | pat (i d : Nat) (x : Nd) | keyP (i d : Nat) (x : Nd)
def Zoz : Tk := ⟨0, [], 0⟩
def kdW (W : List Tk) (i : Nat) : Int := (W.getD i Zoz).kind
def txW (W : List Tk) (i : Nat) : List Int := (W.getD i Zoz).text
def psW (W : List Tk) (i : Nat) : Nat := (W.getD i Zoz).pos
def Zbr (W : List Tk) (k : Int) (i : Nat) : Nd := .mk k (txW W i) (psW W i) 0 [] []
def Zel : List Int := [116, 114, 117, 101]
def Zcv : List Int := [102, 97, 108, 115, 101]
def Zmf : List Int := [110, 105, 108]
def Zkn (W : List Tk) (i d : Nat) (q : Qy → Option Rs) : Option Rs :=
 if kdW W i = 4 then some (.ok (Zbr W 1 i) (i + 1))
 else if kdW W i = 5 then some (.ok (Zbr W 2 i) (i + 1))
 else if kdW W i = 6 then some (.ok (Zbr W 3 i) (i + 1))
 else if kdW W i = 17 then q (.list i d)
 else some (.er i 20)
def Zam (W : List Tk) (q : Qy → Option Rs) : Qy → Option Rs
 | .expr i d =>
  if kdW W i = 1 ∧ kdW W (i + 1) = 7 then
   (if d = 40 then some (.er (i + 1) 3) else (q (.expr (i + 2) (d + 1))).bind fun r => r.bind fun x j => some (.ok (.mk 6 (txW W i) (psW W i) 0 [] [x]) j))
  else q (.casc i d)
 | .casc i d => (q (.prim i d)).bind fun r => r.bind fun x j => (q (.keyOf j d x)).bind fun r => r.bind fun y k =>
   if kdW W k = 15 then (if k = j then some (.er k 20) else q (.others k d (Zcw y))) else some (.ok y k)
 | .others i d x => if kdW W i = 15 then (q (.msg (i + 1) d)).bind fun r => r.bind fun m j => q (.others j d (x.kid m)) else some (.ok x i)
 | .msg i d =>
  if kdW W i = 1 then some (.ok (Zda (txW W i) (psW W i) []) (i + 1))
  else if kdW W i = 3 then (q (.una (i + 1) d)).bind fun r => r.bind fun a j => some (.ok (Zda (txW W i) (psW W i) [a]) j)
  else if kdW W i = 2 then q (.keys i d (Zda [] (psW W i) []))
  else some (.er i 20)
 | .keys i d x => if kdW W i = 2 then (q (.bin (i + 1) d)).bind fun r => r.bind fun a j => q (.keys j d ((x.say (txW W i)).kid a)) else some (.ok x i)
 | .keyOf i d x => (q (.unaOf i d x)).bind fun r => r.bind fun y j => (q (.binOf j d y)).bind fun r => r.bind fun z k =>
   if kdW W k = 2 then (q (.keys k d (Zda [] (psW W k) []))).bind fun r => r.bind fun m l => some (.ok (Zat z m) l) else some (.ok z k)
 | .unaOf i d x => if kdW W i = 1 then q (.unaOf (i + 1) d (Zat x (Zda (txW W i) (psW W i) []))) else some (.ok x i)
 | .binOf i d x => if kdW W i = 3 then (q (.una (i + 1) d)).bind fun r => r.bind fun a j => q (.binOf j d (Zat x (Zda (txW W i) (psW W i) [a]))) else some (.ok x i)
 | .bin i d => (q (.una i d)).bind fun r => r.bind fun x j => q (.binOf j d x)
 | .una i d => (q (.prim i d)).bind fun r => r.bind fun x j => q (.unaOf j d x)
 | .prim i d =>
  if kdW W i = 1 then some (.ok (Zbr W 5 i) (i + 1))
  else if kdW W i = 8 then
   (if d = 40 then some (.er i 3) else (q (.expr (i + 1) (d + 1))).bind fun r => r.bind fun x j => if kdW W j = 9 then some (.ok x (j + 1)) else some (.er j 20))
  else if kdW W i = 10 then q (.block i d)
  else Zkn W i d q
 | .list i d => if d = 40 then some (.er i 3) else q (.elems (i + 1) (d + 1) (.mk 4 [] (psW W i) 0 [] []))
 | .elems i d x => if kdW W i = 9 then some (.ok x (i + 1)) else (q (.elem i d)).bind fun r => r.bind fun y j => q (.elems j d (x.kid y))
 | .elem i d =>
  if kdW W i = 1 then some (.ok (Zbr W (if txW W i = Zel ∨ txW W i = Zcv ∨ txW W i = Zmf then 13 else 3) i) (i + 1))
  else if kdW W i = 2 ∨ kdW W i = 3 then some (.ok (Zbr W 3 i) (i + 1))
  else if kdW W i = 8 then q (.list i d)
  else Zkn W i d q
 | .block i d =>
  if d = 40 then some (.er i 3) else (q (.args (i + 1) (d + 1) (.mk 10 [] (psW W i) 0 [] []))).bind fun r => r.bind fun x j => (q (.body j (d + 1) x)).bind fun r => r.bind fun y k =>
   if kdW W k = 11 then some (.ok y (k + 1)) else some (.er k 20)
 | .args i d x =>
  if kdW W i = 16 then (if kdW W (i + 1) = 1 then q (.args (i + 2) d (x.arg (txW W (i + 1)))) else some (.er (i + 1) 20))
  else if x.n = 0 ∨ kdW W i = 11 then some (.ok x i)
  else if kdW W i = 12 then some (.ok x (i + 1))
  else some (.er i 20)
 | .temps i d x => if kdW W i = 1 then q (.temps (i + 1) d (x.tmp (txW W i))) else if kdW W i = 12 then some (.ok x (i + 1)) else some (.er i 20)
 | .body i d x => if kdW W i = 12 then (q (.temps (i + 1) d x)).bind fun r => r.bind fun y j => q (.stmts j d y) else q (.stmts i d x)
 | .stmts i d x =>
  if kdW W i = 0 ∨ kdW W i = 11 then some (.ok x i)
  else (q (.stmt i d)).bind fun r => r.bind fun y j =>
   if kdW W j = 14 then (if y.kind = 11 then some (.ok (x.kid y) (j + 1)) else q (.stmts (j + 1) d (x.kid y))) else some (.ok (x.kid y) j)
 | .stmt i d => if kdW W i = 13 then (q (.expr (i + 1) d)).bind fun r => r.bind fun x j => some (.ok (.mk 11 [] (psW W i) 0 [] [x]) j) else q (.expr i d)
 | .pat i d x =>
  if kdW W i = 1 then some (.ok (x.say (txW W i)) (i + 1))
  else if kdW W i = 3 then (if kdW W (i + 1) = 1 then some (.ok ((x.say (txW W i)).arg (txW W (i + 1))) (i + 2)) else some (.er (i + 1) 20))
  else if kdW W i = 2 then q (.keyP i d x)
  else some (.er i 20)
 | .keyP i d x =>
  if kdW W i = 2 then (if kdW W (i + 1) = 1 then q (.keyP (i + 2) d ((x.say (txW W i)).arg (txW W (i + 1)))) else some (.er (i + 1) 20))
  else some (.ok x i)
def Zdt (W : List Tk) : Nat → Qy → Option Rs
 | 0 => fun _ => none
 | f + 1 => Zam W (Zdt W f)
def LeQ (p q : Qy → Option Rs) : Prop := ∀ a r, p a = some r → q a = some r
variable {E : Nat} {W : List Tk} {a : Qy} {r : Rs}
theorem bind_le {p q : Qy → Option Rs} (h : LeQ p q) {f g : Rs → Option Rs} (hf : ∀ x r, f x = some r → g x = some r) (e : (p a).bind f = some r) : (q a).bind g = some r := by
 cases hp : p a with
 | none => rw [hp] at e; cases e
 | some x => rw [hp] at e; rw [h a x hp]; exact hf x r e
theorem rs_le {x : Rs} {f g : Nd → Nat → Option Rs} (hf : ∀ y j r, f y j = some r → g y j = some r) (e : x.bind f = some r) : x.bind g = some r := by
 cases x with
 | ok y j => exact hf y j r e
 | er j c => exact e
theorem lit_le {i d : Nat} {p q : Qy → Option Rs} (h : LeQ p q) (e : Zkn W i d p = some r) : Zkn W i d q = some r := by
 unfold Zkn at e ⊢
 repeat' split at e
 all_goals first
  | (rw [if_pos ‹_›]; exact e)
  | skip
 all_goals simp_all [LeQ]
theorem Zpj (W : List Tk) {p q : Qy → Option Rs} (h : LeQ p q) : LeQ (Zam W p) (Zam W q) := by
 intro a r e
 cases a
 all_goals simp only [Zam] at e ⊢
 all_goals repeat' first
  | exact e
  | exact h _ _ e
  | exact lit_le h e
  | (refine bind_le h ?_ e; clear e; intro x r e)
  | (refine rs_le ?_ e; clear e; intro y j r e)
  | (split at e <;> rename_i hc <;> first | rw [if_pos hc] | rw [if_neg hc])
theorem run_mono (W : List Tk) (f : Nat) : LeQ (Zdt W f) (Zdt W (f + 1)) := by
 induction f with
 | zero => intro a r e; cases e
 | succ f ih => exact Zpj W ih
theorem Zgx (W : List Tk) {f g : Nat} (h : f ≤ g) : LeQ (Zdt W f) (Zdt W g) := by
 induction h with
 | refl => intro a r e; exact e
 | step _ ih => intro a r e; exact run_mono W _ a r (ih a r e)
def Zaa (W : List Tk) (a : Qy) (r : Rs) : Prop := ∃ f, Zdt W f a = some r
theorem Zaa.det {s : Rs} (h : Zaa W a r) (h' : Zaa W a s) : r = s := by
 obtain ⟨f, hf⟩ := h
 obtain ⟨g, hg⟩ := h'
 have e1 := Zgx W (Nat.le_max_left f g) a r hf
 have e2 := Zgx W (Nat.le_max_right f g) a s hg
 rw [e1] at e2
 exact Option.some.inj e2
theorem Zaa.back (h : Zaa W a r) : ∃ f, Zam W (Zdt W f) a = some r := by
 obtain ⟨f, hf⟩ := h
 cases f with
 | zero => cases hf
 | succ f => exact ⟨f, hf⟩
def Qy.place : Qy → Nat
 | .expr i _ | .prim i _ | .una i _ | .bin i _ | .casc i _ | .msg i _ | .list i _ | .elem i _ | .block i _ | .stmt i _ => i
 | .unaOf i _ _ | .binOf i _ _ | .keyOf i _ _ | .keys i _ _ | .others i _ _ | .elems i _ _ | .args i _ _ | .temps i _ _ | .body i _ _ | .stmts i _ _ | .pat i _ _ | .keyP i _ _ => i
def Qy.takes : Qy → Nat
 | .expr _ _ | .prim _ _ | .una _ _ | .bin _ _ | .casc _ _ | .list _ _ | .elem _ _ | .block _ _ | .stmt _ _ => 1
 | _ => 0
def Qy.asks : Qy → Nat
 | .list _ _ | .block _ _ => 1
 | _ => 0
def Adv (E : Nat) (a : Qy) : Rs → Prop
 | .ok _ j => a.place + a.asks ≤ E → a.place + a.takes ≤ j ∧ j ≤ E
 | .er j _ => a.place + a.asks ≤ E → a.place ≤ j ∧ j ≤ E
theorem Zgd {o : Option Rs} {f : Rs → Option Rs} (e : o.bind f = some r) : ∃ x, o = some x ∧ f x = some r := by
 cases o with
 | none => cases e
 | some x => exact ⟨x, rfl, e⟩
theorem rsE {x : Rs} {f : Nd → Nat → Option Rs} (e : x.bind f = some r) : (∃ j c, x = .er j c ∧ r = .er j c) ∨ (∃ y j, x = .ok y j ∧ f y j = some r) := by
 cases x with
 | ok y j => exact .inr ⟨y, j, rfl, e⟩
 | er j c => exact .inl ⟨j, c, rfl, (Option.some.inj e).symm⟩
structure Zim (W : List Tk) (E : Nat) : Prop where
 len : E + 1 = W.length
 last : kdW W E = 0
 more : ∀ m, m < E → kdW W m ≠ 0
theorem Zim.lt (h : Zim W E) {m : Nat} (hm : kdW W m ≠ 0) : m < E := by
 have h1 := h.len
 rcases Nat.lt_trichotomy m E with h2 | h2 | h2
 ·exact h2
 ·subst h2; exact absurd h.last hm
 refine absurd ?_ hm
 unfold kdW
 rw [List.getD_eq_getElem?_getD, List.getElem?_eq_none (by omega)]
 rfl
theorem Zfp (hE : Zim W E) (f : Nat) : ∀ a r, Zdt W f a = some r → Adv E a r := by
 induction f with
 | zero => intro a r e; cases e
 | succ f ih =>
  intro a r e
  have e : Zam W (Zdt W f) a = some r := e
  have hk : ∀ {m : Nat} {c : Int}, kdW W m = c → c ≠ 0 → m < E := fun h1 h2 => hE.lt (by rw [h1]; exact h2)
  cases r
  all_goals cases a
  all_goals simp only [Zam, Zkn] at e
  all_goals repeat' first
   | (have hx := ih _ _ e; clear e)
   | (obtain ⟨x, hx, e'⟩ := Zgd e; clear e; have hx' := ih _ _ hx; clear hx; rcases rsE e' with ⟨j, c, rfl, hr⟩ | ⟨y, j, rfl, e⟩ <;> clear e' <;> (try (cases hr)))
   | (split at e <;> rename_i hc <;> (try have hl := hk hc (by decide)) <;> (try have hl1 := hk hc.1 (by decide)) <;> (try have hl2 := hk hc.2 (by decide)) <;> (try have hl3 := hc.elim (fun h => hk h (by decide)) (fun h => hk h (by decide))))
   | (have e' := Option.some.inj e; clear e; cases e')
  all_goals clear hk ih hE
  all_goals simp only [Adv, Qy.place, Qy.takes, Qy.asks] at *
  all_goals omega
theorem Zaa.adv (hE : Zim W E) (h : Zaa W a r) : Adv E a r := by
 obtain ⟨f, hf⟩ := h
 exact Zfp hE f a r hf
end
section
variable {p : Nat} {ss : List Int} {ts : List Tk}
theorem drop_at (h : p < ss.length) : ss.drop p = ss.getD p 0 :: ss.drop (p + 1) := by
 rw [List.drop_eq_getElem_cons h]
 simp [h]
theorem Zlg (rd : List Int → Bool) (ss : List Int) (p : Nat) (hp : p ≤ ss.length) :
  (p = ss.length ∧ Zck rd p (ss.drop p) = .ok [⟨0, [], p⟩]) ∨
  (p < ss.length ∧ blB (ss.getD p 0) = true ∧ Zck rd p (ss.drop p) = Zck rd (p + 1) (ss.drop (p + 1))) ∨
  (p < ss.length ∧ ss.getD p 0 = 34 ∧ ∃ j, (ss.drop (p + 1)).idxOf? 34 = some j ∧ p + j + 2 ≤ ss.length ∧ Zck rd p (ss.drop p) = Zck rd (p + j + 2) (ss.drop (p + j + 2))) ∨
  (p < ss.length ∧ blB (ss.getD p 0) = false ∧ ss.getD p 0 ≠ 34 ∧ ∃ k t n, word rd (ss.drop p) = some (k, t, n) ∧ 0 < n ∧ p + n ≤ ss.length ∧ 0 < k ∧ k ≤ 17 ∧ Zck rd p (ss.drop p) = (Zck rd (p + n) (ss.drop (p + n))).map fun l => ⟨k, t, p⟩ :: l) ∨
  (p < ss.length ∧ Zck rd p (ss.drop p) = .error p) := by
 by_cases h : p < ss.length
 ·have hd := drop_at h
  cases hb : blB (ss.getD p 0) with
  | true => exact .inr (.inl ⟨h, rfl, by rw [hd, Zft _ _ _ hb]⟩)
  | false =>
   by_cases h34 : ss.getD p 0 = 34
   ·cases hi : (ss.drop (p + 1)).idxOf? 34 with
    | none =>
     refine .inr (.inr (.inr (.inr ⟨h, ?_⟩)))
     rw [hd, h34, Zha _ _ _ hi]
    | some j =>
     have hj : j < (ss.drop (p + 1)).length := (List.findIdx?_eq_some_iff_getElem.1 hi).1
     rw [List.length_drop] at hj
     refine .inr (.inr (.inl ⟨h, h34, j, rfl, by omega, ?_⟩))
     rw [hd, h34, Zhb _ _ _ hi, List.drop_drop, show p + 1 + (j + 1) = p + j + 2 by omega]
   cases hw : word rd (ss.drop p) with
   | none =>
    refine .inr (.inr (.inr (.inr ⟨h, ?_⟩)))
    rw [hd] at hw ⊢
    rw [Zhc _ _ hb h34 hw]
   | some x =>
    obtain ⟨k, t, n⟩ := x
    have hl := Ze0 (by rw [hd]; simp) hw
    rw [List.length_drop] at hl
    refine .inr (.inr (.inr (.inl ⟨h, rfl, h34, k, t, n, rfl, hl.1, by omega, hl.2.2.1, hl.2.2.2, ?_⟩)))
    rw [hd] at hw
    conv => lhs; rw [hd]
    rw [Zg9 _ _ hb h34 hw, ← hd, List.drop_drop]
 have e : p = ss.length := by omega
 exact .inl ⟨e, by rw [List.drop_of_length_le (by omega), Ze7]⟩
theorem Zgr {rd : List Int → Bool} {r t : List Int} {k : Int} {n : Nat} (h : word rd r = some (k, t, n)) (h5 : k ≠ 5) (h6 : k ≠ 6) : t = r.take n := by
 unfold word at h
 simp only at h
 split at h
 ·split at h <;> (simp only [Option.some.injEq, Prod.mk.injEq] at h; obtain ⟨rfl, rfl, rfl⟩ := h; rfl)
 split at h
 ·split at h
  ·simp only [Option.some.injEq, Prod.mk.injEq] at h; obtain ⟨rfl, rfl, rfl⟩ := h; rfl
  cases h
 split at h
 ·cases hq : qtW r with
  | none => rw [hq] at h; cases h
  | some x =>
   rw [hq] at h
   simp only [Option.map_some, Option.some.injEq, Prod.mk.injEq] at h
   exact absurd h.1.symm h5
 split at h
 ·split at h
  ·simp only [Option.some.injEq, Prod.mk.injEq] at h; obtain ⟨rfl, rfl, rfl⟩ := h; rfl
  split at h
  ·cases hq : qtW (r.drop 1) with
   | none => rw [hq] at h; cases h
   | some x =>
    rw [hq] at h
    simp only [Option.map_some, Option.some.injEq, Prod.mk.injEq] at h
    exact absurd h.1.symm h6
  split at h
  ·cases h
  simp only [Option.some.injEq, Prod.mk.injEq] at h
  exact absurd h.1.symm h6
 split at h
 ·simp only [Option.some.injEq, Prod.mk.injEq] at h; obtain ⟨rfl, rfl, rfl⟩ := h; rfl
 split at h
 ·split at h <;> (simp only [Option.some.injEq, Prod.mk.injEq] at h; obtain ⟨rfl, rfl, rfl⟩ := h; rfl)
 obtain ⟨i, hm, h⟩ := Option.map_eq_some_iff.1 h
 simp only [Prod.mk.injEq] at h
 obtain ⟨rfl, rfl, rfl⟩ := h
 rfl
def Own (ss : List Int) (t : Tk) : Prop := t.kind ≠ 5 → t.kind ≠ 6 → ∃ n, 0 < n ∧ t.pos + n ≤ ss.length ∧ t.text = (ss.drop t.pos).take n
def Pl (ss : List Int) : Nat → List Tk → Prop
 | _, [] => False
 | p, t :: r => (r = [] ∧ t.kind = 0 ∧ t.text = [] ∧ t.pos = ss.length ∧ p ≤ ss.length) ∨ (r ≠ [] ∧ p ≤ t.pos ∧ t.pos < ss.length ∧ 0 < t.kind ∧ t.kind ≤ 17 ∧ Own ss t ∧ Pl ss (t.pos + 1) r)
theorem Pl.mono {q : Nat} (h : Pl ss q ts) (hpq : p ≤ q) : Pl ss p ts := by
 cases ts with
 | nil => exact h
 | cons t r =>
  rcases h with ⟨h1, h2, h3, h4, h5⟩ | ⟨h1, h2, h3⟩
  ·exact .inl ⟨h1, h2, h3, h4, by omega⟩
  exact .inr ⟨h1, by omega, h3⟩
theorem placed (rd : List Int → Bool) (ss : List Int) (n : Nat) : ∀ (p : Nat) (ts : List Tk), ss.length - p ≤ n → p ≤ ss.length → Zck rd p (ss.drop p) = .ok ts → Pl ss p ts := by
 induction n with
 | zero =>
  intro p ts hn hp h
  have e : p = ss.length := by omega
  subst e
  rw [List.drop_length, Ze7] at h
  cases h
  exact .inl ⟨rfl, rfl, rfl, rfl, Nat.le_refl _⟩
 | succ n ih =>
  intro p ts hn hp h
  rcases Zlg rd ss p hp with ⟨e, h1⟩ | ⟨hlt, hb, h1⟩ | ⟨hlt, h34, j, hi, hj, h1⟩ | ⟨hlt, hb, h34, k, t, m, hw, hm, hml, hk, hk2, h1⟩ | ⟨hlt, h1⟩
  ·rw [h1] at h
   cases h
   exact .inl ⟨rfl, rfl, rfl, e, hp⟩
  ·rw [h1] at h
   exact (ih (p + 1) ts (by omega) (by omega) h).mono (by omega)
  ·rw [h1] at h
   exact (ih (p + j + 2) ts (by omega) (by omega) h).mono (by omega)
  ·rw [h1] at h
   cases hl : Zck rd (p + m) (ss.drop (p + m)) with
   | error q => rw [hl] at h; cases h
   | ok l =>
    rw [hl] at h
    cases h
    have hp2 := ih (p + m) l (by omega) (by omega) hl
    refine .inr ⟨?_, Nat.le_refl _, hlt, hk, hk2, fun h5 h6 => ⟨m, hm, hml, ?_⟩, hp2.mono (by show p + 1 ≤ p + m; omega)⟩
    ·intro e; rw [e] at hp2; exact hp2
    exact Zgr hw h5 h6
  rw [h1] at h; cases h
theorem Pl.at_ (d : Tk) : ∀ {p : Nat} (_ : Pl ss p ts) (i : Nat), i < ts.length → (p : Int) ≤ (ts.getD i d).pos ∧ (ts.getD i d).pos ≤ ss.length ∧ ((ts.getD i d).kind = 0 ↔ i + 1 = ts.length) ∧ (0 ≤ (ts.getD i d).kind ∧ (ts.getD i d).kind ≤ 17) ∧ ((ts.getD i d).kind ≠ 0 → Own ss (ts.getD i d)) ∧ (i + 1 = ts.length → (ts.getD i d).pos = ss.length) ∧ (i + 1 < ts.length → (ts.getD i d).pos < (ts.getD (i + 1) d).pos) := by
 induction ts with
 | nil => intro p h i hi; exact absurd hi (by simp)
 | cons t r ih =>
  intro p h i hi
  rcases h with ⟨rfl, h2, h3, h4, h5⟩ | ⟨h1, h2, h3, h4, h5, h6, h7⟩
  ·cases i with
   | zero => exact ⟨by show (p : Int) ≤ (t.pos : Int); omega, by show t.pos ≤ _; omega, ⟨fun _ => rfl, fun _ => h2⟩, ⟨by show 0 ≤ t.kind; omega, by show t.kind ≤ 17; omega⟩, fun h => absurd h2 h, fun _ => h4, fun h => absurd h (by simp)⟩
   | succ i => exact absurd hi (by simp)
  have hr : 0 < r.length := List.length_pos_iff.2 h1
  cases i with
  | zero =>
   refine ⟨by show (p : Int) ≤ (t.pos : Int); omega, by show t.pos ≤ _; omega, ⟨fun h => ?_, fun h => ?_⟩, ⟨by show 0 ≤ t.kind; omega, h5⟩, fun _ => h6, fun h => ?_, fun _ => ?_⟩
   ·have : t.kind = 0 := h; omega
   ·simp only [List.length_cons] at h; omega
   ·simp only [List.length_cons] at h; omega
   have := (ih h7 0 hr).1
   show t.pos < (r.getD 0 d).pos
   omega
  | succ i =>
   simp only [List.length_cons] at hi
   obtain ⟨a1, a2, a3, a4, a5, a6, a7⟩ := ih h7 i (by omega)
   refine ⟨by show (p : Int) ≤ ((r.getD i d).pos : Int); omega, a2, ?_, a4, a5, ?_, ?_⟩
   ·rw [List.length_cons]; exact ⟨fun h => by have := a3.1 h; omega, fun h => a3.2 (by omega)⟩
   ·rw [List.length_cons]; exact fun h => a6 (by omega)
   rw [List.length_cons]; exact fun h => a7 (by omega)
theorem Pl.pos (h : Pl ss p ts) : 0 < ts.length := by
 cases ts with
 | nil => exact absurd h id
 | cons t r => simp
theorem Pl.len : ∀ {p : Nat}, Pl ss p ts → p + ts.length ≤ ss.length + 1 := by
 induction ts with
 | nil => intro p h; exact absurd h id
 | cons t r ih =>
  intro p h
  rcases h with ⟨rfl, h2, h3, h4, h5⟩ | ⟨h1, h2, h3, h4, h5, h6, h7⟩
  ·simp; omega
  have := ih h7
  simp only [List.length_cons]
  omega
end
theorem Zkc (r : List Int) (hb : ∀ x ∈ r, 0 ≤ x ∧ x < 256) : Lib.strCells (strOfNums r) = r.map (Value.int .u8) := by
 have := Zeo r hb
 unfold Lib.byteCells at this
 unfold Lib.strCells
 rw [show (strOfNums r).data.toList = r.map fun n => UInt8.ofNat n.toNat by simp [strOfNums]]
 exact this
theorem Zdu {r t : List Int} {n : Nat} (h : qtW r = some (t, n)) : t.length ≤ 1024 := by
 unfold qtW at h
 split at h
 ·cases h
 split at h
 ·cases h; assumption
 cases h
theorem Zio {rd : List Int → Bool} {r t : List Int} {k : Int} {n : Nat} (h : word rd r = some (k, t, n)) (hk : k = 5 ∨ k = 6) : t.length ≤ 1024 := by
 unfold word at h
 simp only at h
 split at h
 ·split at h <;> (cases h; omega)
 split at h
 ·split at h
  ·cases h; omega
  cases h
 split at h
 ·obtain ⟨x, hx, he⟩ := Option.map_eq_some_iff.1 h
  cases he
  exact Zdu (n := x.2) hx
 split at h
 ·split at h
  ·cases h; omega
  split at h
  ·obtain ⟨x, hx, he⟩ := Option.map_eq_some_iff.1 h
   cases he
   exact Zdu (n := x.2) hx
  split at h
  ·cases h
  rename_i hb
  cases h
  rw [List.length_take]
  omega
 split at h
 ·cases h; omega
 split at h
 ·split at h <;> (cases h; omega)
 obtain ⟨x, hx, he⟩ := Option.map_eq_some_iff.1 h
 simp only [Prod.mk.injEq] at he
 omega
def kt (t : Tk) : Int × List Int := (t.kind, t.text)
def Ziz (t : List Int) : Bool := decide (t ≠ []) && decide (Zaq t = t.length)
theorem str_ne {ss : List Int} (h : ss ≠ []) : (strOfNums ss).toList.isEmpty = false := by
 rw [Lib.strOfNums_toList]
 cases ss with
 | nil => exact absurd rfl h
 | cons c r => rfl
theorem Zla (ss : List Int) (w : World) (hb : ∀ x ∈ ss, 0 ≤ x ∧ x < 256) (hm : ss.length ≤ 9223372036854775806) : Calls Tryz.prog 35 #[.string (strOfNums ss)] w fun e w' => e = .returned (.bool (Ziz ss)) ∧ w = w' := by
 have hsz : (strOfNums ss).size = ss.length := strOfNums_size ss
 by_cases h0 : ss = []
 ·subst h0
  have e : strOfNums [] = ⟨#[]⟩ := rfl
  rw [e]
  go_enter Tryz.func35, Tryz.ntmps35
  go_wp2
  go_ret
  exact ⟨rfl, rfl⟩
 have hne := str_ne h0
 have hc := fun w => Zcu ss 0 w hb hm (Nat.zero_le _)
 rw [List.drop_zero, Nat.zero_add, Int.natCast_zero] at hc
 have ep : Ziz ss = ((Zaq ss : Int) == (ss.length : Int)) := by
  unfold Ziz
  rw [decide_eq_true h0, Bool.true_and, Bool.eq_iff_iff, beq_iff_eq, decide_eq_true_eq]
  omega
 rw [ep]
 generalize Zaq ss = n at *
 go_enter Tryz.func35, Tryz.ntmps35
 go_wp2_with fail
 refine (hc _).mono ?_
 rintro e w2 ⟨rfl, rfl⟩
 go_wp2
 go_ret
 exact ⟨rfl, rfl⟩
def Zcx (t : List Int) : Nat := match t with
 | [] => 0
 | c :: r => if Ze8 c then (c :: r).count 58 else 1
end Go.Proofs.YtncfmhlikmibaaaGreatDoor
