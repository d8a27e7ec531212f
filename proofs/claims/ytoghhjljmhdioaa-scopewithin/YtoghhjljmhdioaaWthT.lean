/- A source within brackets: its tree, one place and one level further in. -/
import Derived.Test.YtoghhjljmhdioaaTreM
import Derived.Test.YtoghhjljmhdioaaHne
import Derived.Test.YtoghhjljmhdioaaScoM
import Derived.Test.YtoghhjljmhdioaaTreR
import Derived.Test.YtoghhjljmhdioaaLexW
import Derived.Test.YtoghhjljmhdioaaPlcM
import Derived.Test.YtoghhjljmhdioaaRdt
namespace Go.Proofs.Ytoghhjljmhdioaa
mutual
def shN : Nd → Nd
  | .mk k t p n l kids => .mk k t (p + 1) n l (shL kids)
def shL : List Nd → List Nd
  | [] => []
  | x :: r => shN x :: shL r
end
theorem shL_app : ∀ a b : List Nd, shL (a ++ b) = shL a ++ shL b
  | [], b => by simp [shL]
  | x :: r, b => by simp [shL, shL_app r b]
theorem shN_kind (x : Nd) : (shN x).kind = x.kind := by cases x; simp [shN, Nd.kind]
theorem shN_text (x : Nd) : (shN x).text = x.text := by cases x; simp [shN, Nd.text]
theorem shN_pos (x : Nd) : (shN x).pos = x.pos + 1 := by cases x; simp [shN, Nd.pos]
theorem shN_n (x : Nd) : (shN x).n = x.n := by cases x; simp [shN, Nd.n]
theorem shN_names (x : Nd) : (shN x).names = x.names := by cases x; simp [shN, Nd.names]
theorem shN_kids (x : Nd) : (shN x).kids = shL x.kids := by cases x; simp [shN, Nd.kids]
theorem shN_kid (x y : Nd) : shN (x.kid y) = (shN x).kid (shN y) := by
  unfold Nd.kid
  rw [shN_kind, shN_text, shN_pos, shN_n, shN_names, shN_kids]
  simp [shN, shL_app, shL]
theorem shN_tmp (x : Nd) (t : List Int) : shN (x.tmp t) = (shN x).tmp t := by
  unfold Nd.tmp
  rw [shN_kind, shN_text, shN_pos, shN_n, shN_names, shN_kids]
  simp [shN]
theorem shN_arg (x : Nd) (t : List Int) : shN (x.arg t) = (shN x).arg t := by
  unfold Nd.arg
  rw [shN_kind, shN_text, shN_pos, shN_n, shN_names, shN_kids]
  simp [shN]
theorem shN_say (x : Nd) (t : List Int) : shN (x.say t) = (shN x).say t := by
  unfold Nd.say
  rw [shN_kind, shN_text, shN_pos, shN_n, shN_names, shN_kids]
  simp [shN]
theorem shN_sent (r m : Nd) : shN (sentN r m) = sentN (shN r) (shN m) := by
  unfold sentN
  rw [shN_text, shN_pos, shN_kids]
  simp [shN, shL]
theorem shN_msg (t : List Int) (p : Nat) (l : List Nd) : shN (msgN t p l) = msgN t (p + 1) (shL l) := by simp [msgN, shN]
theorem shN_casc (s : Nd) (h : s.kids ≠ []) : shN (cascN s) = cascN (shN s) := by
  unfold cascN
  rw [shN_text, shN_pos, shN_kids]
  cases hk : s.kids with
  | nil => exact absurd hk h
  | cons x r => simp [shN, shL, msgN]
def shQ : Qy → Qy
  | .expr i d => .expr (i + 1) (d + 1)
  | .prim i d => .prim (i + 1) (d + 1)
  | .una i d => .una (i + 1) (d + 1)
  | .bin i d => .bin (i + 1) (d + 1)
  | .casc i d => .casc (i + 1) (d + 1)
  | .msg i d => .msg (i + 1) (d + 1)
  | .list i d => .list (i + 1) (d + 1)
  | .elem i d => .elem (i + 1) (d + 1)
  | .block i d => .block (i + 1) (d + 1)
  | .stmt i d => .stmt (i + 1) (d + 1)
  | .unaOf i d x => .unaOf (i + 1) (d + 1) (shN x)
  | .binOf i d x => .binOf (i + 1) (d + 1) (shN x)
  | .keyOf i d x => .keyOf (i + 1) (d + 1) (shN x)
  | .keys i d x => .keys (i + 1) (d + 1) (shN x)
  | .others i d x => .others (i + 1) (d + 1) (shN x)
  | .elems i d x => .elems (i + 1) (d + 1) (shN x)
  | .args i d x => .args (i + 1) (d + 1) (shN x)
  | .temps i d x => .temps (i + 1) (d + 1) (shN x)
  | .body i d x => .body (i + 1) (d + 1) (shN x)
  | .stmts i d x => .stmts (i + 1) (d + 1) (shN x)
  | .pat i d x => .pat (i + 1) (d + 1) (shN x)
  | .keyP i d x => .keyP (i + 1) (d + 1) (shN x)
/-- Words one place further on; the end is a closing bracket there. -/
structure Wi (W W' : List Tk) : Prop where
  kd : ∀ i, kdW W' (i + 1) = kdW W i ∨ (kdW W i = 0 ∧ kdW W' (i + 1) = 11)
  tx : ∀ i, kdW W i ≠ 0 → txW W' (i + 1) = txW W i
  ps : ∀ i, kdW W i ≠ 0 → psW W' (i + 1) = psW W i + 1
theorem Wi.is {W W' : List Tk} (H : Wi W W') (c : Int) (h0 : c ≠ 0) (h11 : c ≠ 11) (i : Nat) : (kdW W' (i + 1) = c) = (kdW W i = c) := by
  rcases H.kd i with h | ⟨h, h'⟩
  · rw [h]
  · rw [h, h']
    exact propext ⟨fun e => absurd e.symm h11, fun e => absurd e.symm h0⟩
theorem Wi.stop {W W' : List Tk} (H : Wi W W') (i : Nat) : (kdW W' (i + 1) = 0 ∨ kdW W' (i + 1) = 11) = (kdW W i = 0 ∨ kdW W i = 11) := by
  rcases H.kd i with h | ⟨h, h'⟩
  · rw [h]
  · rw [h, h']
    exact propext ⟨fun _ => .inl rfl, fun _ => .inr rfl⟩
theorem Wi.close {W W' : List Tk} (H : Wi W W') {i : Nat} (h : kdW W i = 11) : kdW W' (i + 1) = 11 := by
  rcases H.kd i with e | ⟨e, e'⟩
  · rw [e, h]
  · exact e'
theorem Wi.leaf {W W' : List Tk} (H : Wi W W') {i : Nat} {c : Int} (h : kdW W i = c) (hc : c ≠ 0) (k : Int) : leafW W' k (i + 1) = shN (leafW W k i) := by
  have h0 : kdW W i ≠ 0 := by rw [h]; exact hc
  unfold leafW
  rw [H.tx i h0, H.ps i h0]
  simp [shN, shL]
/-- It is read there too, or it is too deep. -/
def WQ (o : Option Rs) (y : Nd) (j : Nat) : Prop := o = some (.ok (shN y) (j + 1)) ∨ ∃ m, o = some (.er m 3)
theorem WQ.bind {o : Option Rs} {x y : Nd} {k j : Nat} {g : Nd → Nat → Option Rs} (h : WQ o x k) (hc : WQ (g (shN x) (k + 1)) y j) : WQ (o.bind fun r => r.bind g) y j := by
  rcases h with rfl | ⟨m, rfl⟩
  · exact hc
  · exact .inr ⟨m, rfl⟩
theorem WQ.here {x : Nd} {j : Nat} {z : Nd} (h : z = shN x) : WQ (some (.ok z (j + 1))) x j := .inl (by rw [h])
theorem WQ.deep {y : Nd} {j : Nat} {d m : Nat} {o : Option Rs} (h : WQ o y j) : WQ (if d = 40 then some (.er m 3) else o) y j := by
  split
  · exact .inr ⟨m, rfl⟩
  · exact h
theorem okW {o : Option Rs} {f : Nd → Nat → Option Rs} {y : Nd} {j : Nat} (e : o.bind (fun r => r.bind f) = some (.ok y j)) : ∃ x k, o = some (.ok x k) ∧ f x k = some (.ok y j) := by
  obtain ⟨x, hx, e'⟩ := bindE e
  rcases rsE e' with ⟨_, _, _, h⟩ | ⟨x', k, rfl, h⟩
  · cases h
  · exact ⟨x', k, hx, h⟩
theorem okV {x y : Nd} {i j : Nat} (h : (some (Rs.ok x i) : Option Rs) = some (.ok y j)) : x = y ∧ i = j := by cases h; exact ⟨rfl, rfl⟩
def PreW (W : List Tk) : Qy → Prop
  | .list i _ | .block i _ => kdW W i ≠ 0
  | _ => True
theorem lit_in {W W' : List Tk} (H : Wi W W') {q q' : Qy → Option Rs} {i d j : Nat} {y : Nd} (ih : ∀ a y j, q a = some (.ok y j) → PreW W a → WQ (q' (shQ a)) y j) (e : litW W i d q = some (.ok y j)) : WQ (litW W' (i + 1) (d + 1) q') y j := by
  unfold litW at e ⊢
  simp only [H.is 4 (by decide) (by decide), H.is 5 (by decide) (by decide), H.is 6 (by decide) (by decide), H.is 17 (by decide) (by decide)]
  split at e
  · rename_i h
    rw [if_pos h]
    obtain ⟨rfl, rfl⟩ := okV e
    exact .here (H.leaf h (by decide) _)
  · rename_i h
    rw [if_neg h]
    split at e
    · rename_i h
      rw [if_pos h]
      obtain ⟨rfl, rfl⟩ := okV e
      exact .here (H.leaf h (by decide) _)
    · rename_i h
      rw [if_neg h]
      split at e
      · rename_i h
        rw [if_pos h]
        obtain ⟨rfl, rfl⟩ := okV e
        exact .here (H.leaf h (by decide) _)
      · rename_i h
        rw [if_neg h]
        split at e
        · rename_i h
          rw [if_pos h]
          exact ih _ _ _ e (show kdW W i ≠ 0 by rw [h]; decide)
        · cases e
theorem run_in {W W' : List Tk} (H : Wi W W') (f : Nat) : ∀ a y j, runW W f a = some (.ok y j) → PreW W a → WQ (runW W' f (shQ a)) y j := by
  have k1 := H.is 1 (by decide) (by decide)
  have k2 := H.is 2 (by decide) (by decide)
  have k3 := H.is 3 (by decide) (by decide)
  have k7 := H.is 7 (by decide) (by decide)
  have k8 := H.is 8 (by decide) (by decide)
  have k9 := H.is 9 (by decide) (by decide)
  have k10 := H.is 10 (by decide) (by decide)
  have k12 := H.is 12 (by decide) (by decide)
  have k13 := H.is 13 (by decide) (by decide)
  have k14 := H.is 14 (by decide) (by decide)
  have k15 := H.is 15 (by decide) (by decide)
  have k16 := H.is 16 (by decide) (by decide)
  have nz : ∀ {i : Nat} {c : Int}, kdW W i = c → c ≠ 0 → kdW W i ≠ 0 := fun h hc => by rw [h]; exact hc
  induction f with
  | zero => intro a y j e; cases e
  | succ f ih =>
    intro a y j e hp
    have e : stepW W (runW W f) a = some (.ok y j) := e
    show WQ (stepW W' (runW W' f) (shQ a)) y j
    cases a with
    | expr i d =>
      simp only [stepW, shQ, k1, k7] at e ⊢
      split at e
      · rename_i h
        rw [if_pos h]
        split at e
        · cases e
        · obtain ⟨x, k, hx, e⟩ := okW e
          obtain ⟨rfl, rfl⟩ := okV e
          refine .deep (.bind (ih _ _ _ hx trivial) (.here ?_))
          rw [H.tx i (nz h.1 (by decide)), H.ps i (nz h.1 (by decide))]
          simp [shN, shL]
      · rename_i h
        rw [if_neg h]
        exact ih _ _ _ e trivial
    | prim i d =>
      simp only [stepW, shQ, k1, k8, k10] at e ⊢
      split at e
      · rename_i h
        rw [if_pos h]
        obtain ⟨rfl, rfl⟩ := okV e
        exact .here (H.leaf h (by decide) _)
      · rename_i h
        rw [if_neg h]
        split at e
        · rename_i h
          rw [if_pos h]
          split at e
          · cases e
          · obtain ⟨x, k, hx, e⟩ := okW e
            refine .deep (.bind (ih _ _ _ hx trivial) ?_)
            simp only [k9]
            split at e
            · rename_i h
              rw [if_pos h]
              obtain ⟨rfl, rfl⟩ := okV e
              exact .here rfl
            · cases e
        · rename_i h
          rw [if_neg h]
          split at e
          · rename_i h
            rw [if_pos h]
            exact ih _ _ _ e (nz h (by decide))
          · rename_i h
            rw [if_neg h]
            exact lit_in H ih e
    | una i d =>
      simp only [stepW, shQ] at e ⊢
      obtain ⟨x, k, hx, e⟩ := okW e
      exact .bind (ih _ _ _ hx trivial) (ih _ _ _ e trivial)
    | bin i d =>
      simp only [stepW, shQ] at e ⊢
      obtain ⟨x, k, hx, e⟩ := okW e
      exact .bind (ih _ _ _ hx trivial) (ih _ _ _ e trivial)
    | casc i d =>
      simp only [stepW, shQ] at e ⊢
      obtain ⟨x, k, hx, e⟩ := okW e
      obtain ⟨z, l, hz, e⟩ := okW e
      refine .bind (ih _ _ _ hx trivial) (.bind (ih _ _ _ hz trivial) ?_)
      simp only [k15, Nat.add_right_cancel_iff]
      split at e
      · rename_i h
        rw [if_pos h]
        split at e
        · cases e
        · rename_i hne
          rw [if_neg hne, ← shN_casc z (keyOf_kids ⟨f, hz⟩ hne)]
          exact ih _ _ _ e trivial
      · rename_i h
        rw [if_neg h]
        obtain ⟨rfl, rfl⟩ := okV e
        exact .here rfl
    | msg i d =>
      simp only [stepW, shQ, k1, k2, k3] at e ⊢
      split at e
      · rename_i h
        rw [if_pos h]
        obtain ⟨rfl, rfl⟩ := okV e
        refine .here ?_
        rw [H.tx i (nz h (by decide)), H.ps i (nz h (by decide)), shN_msg]
        rfl
      · rename_i h
        rw [if_neg h]
        split at e
        · rename_i h
          rw [if_pos h]
          obtain ⟨x, k, hx, e⟩ := okW e
          obtain ⟨rfl, rfl⟩ := okV e
          refine .bind (ih _ _ _ hx trivial) (.here ?_)
          rw [H.tx i (nz h (by decide)), H.ps i (nz h (by decide)), shN_msg]
          simp [shL]
        · rename_i h
          rw [if_neg h]
          split at e
          · rename_i h
            rw [if_pos h, H.ps i (nz h (by decide))]
            have := ih _ _ _ e trivial
            simp only [shQ, shN_msg] at this
            exact this
          · cases e
    | list i d =>
      simp only [stepW, shQ] at e ⊢
      split at e
      · cases e
      · refine .deep ?_
        have := ih _ _ _ e trivial
        simp only [shQ, shN, shL] at this
        rw [H.ps i hp]
        exact this
    | elem i d =>
      simp only [stepW, shQ, k1, k2, k3, k8] at e ⊢
      split at e
      · rename_i h
        rw [if_pos h, H.tx i (nz h (by decide))]
        obtain ⟨rfl, rfl⟩ := okV e
        exact .here (H.leaf h (by decide) _)
      · rename_i h
        rw [if_neg h]
        split at e
        · rename_i h
          rw [if_pos h]
          obtain ⟨rfl, rfl⟩ := okV e
          refine .here ?_
          rcases h with h | h
          · exact H.leaf h (by decide) _
          · exact H.leaf h (by decide) _
        · rename_i h
          rw [if_neg h]
          split at e
          · rename_i h
            rw [if_pos h]
            exact ih _ _ _ e (nz h (by decide))
          · rename_i h
            rw [if_neg h]
            exact lit_in H ih e
    | block i d =>
      simp only [stepW, shQ] at e ⊢
      split at e
      · cases e
      · obtain ⟨x, k, hx, e⟩ := okW e
        obtain ⟨z, l, hz, e⟩ := okW e
        have hX := ih _ _ _ hx trivial
        simp only [shQ, shN, shL] at hX
        rw [H.ps i hp]
        refine .deep (.bind hX (.bind (ih _ _ _ hz trivial) ?_))
        split at e
        · rename_i h
          rw [if_pos (H.close h)]
          obtain ⟨rfl, rfl⟩ := okV e
          exact .here rfl
        · cases e
    | stmt i d =>
      simp only [stepW, shQ, k13] at e ⊢
      split at e
      · rename_i h
        rw [if_pos h]
        obtain ⟨x, k, hx, e⟩ := okW e
        obtain ⟨rfl, rfl⟩ := okV e
        refine .bind (ih _ _ _ hx trivial) (.here ?_)
        rw [H.ps i (nz h (by decide))]
        simp [shN, shL]
      · rename_i h
        rw [if_neg h]
        exact ih _ _ _ e trivial
    | unaOf i d x =>
      simp only [stepW, shQ, k1] at e ⊢
      split at e
      · rename_i h
        rw [if_pos h, H.tx i (nz h (by decide)), H.ps i (nz h (by decide))]
        have := ih _ _ _ e trivial
        simp only [shQ, shN_sent, shN_msg, shL] at this
        exact this
      · rename_i h
        rw [if_neg h]
        obtain ⟨rfl, rfl⟩ := okV e
        exact .here rfl
    | binOf i d x =>
      simp only [stepW, shQ, k3] at e ⊢
      split at e
      · rename_i h
        rw [if_pos h, H.tx i (nz h (by decide)), H.ps i (nz h (by decide))]
        obtain ⟨z, k, hz, e⟩ := okW e
        have := ih _ _ _ e trivial
        simp only [shQ, shN_sent, shN_msg, shL] at this
        exact .bind (ih _ _ _ hz trivial) this
      · rename_i h
        rw [if_neg h]
        obtain ⟨rfl, rfl⟩ := okV e
        exact .here rfl
    | keyOf i d x =>
      simp only [stepW, shQ] at e ⊢
      obtain ⟨z, k, hz, e⟩ := okW e
      obtain ⟨t, l, ht, e⟩ := okW e
      refine .bind (ih _ _ _ hz trivial) (.bind (ih _ _ _ ht trivial) ?_)
      simp only [k2]
      split at e
      · rename_i h
        rw [if_pos h, H.ps l (nz h (by decide))]
        obtain ⟨m, o, hm, e⟩ := okW e
        obtain ⟨rfl, rfl⟩ := okV e
        have := ih _ _ _ hm trivial
        simp only [shQ, shN_msg, shL] at this
        exact .bind this (.here (shN_sent _ _).symm)
      · rename_i h
        rw [if_neg h]
        obtain ⟨rfl, rfl⟩ := okV e
        exact .here rfl
    | keys i d x =>
      simp only [stepW, shQ, k2] at e ⊢
      split at e
      · rename_i h
        rw [if_pos h, H.tx i (nz h (by decide))]
        obtain ⟨z, k, hz, e⟩ := okW e
        have := ih _ _ _ e trivial
        simp only [shQ, shN_kid, shN_say] at this
        exact .bind (ih _ _ _ hz trivial) this
      · rename_i h
        rw [if_neg h]
        obtain ⟨rfl, rfl⟩ := okV e
        exact .here rfl
    | others i d x =>
      simp only [stepW, shQ, k15] at e ⊢
      split at e
      · rename_i h
        rw [if_pos h]
        obtain ⟨z, k, hz, e⟩ := okW e
        have := ih _ _ _ e trivial
        simp only [shQ, shN_kid] at this
        exact .bind (ih _ _ _ hz trivial) this
      · rename_i h
        rw [if_neg h]
        obtain ⟨rfl, rfl⟩ := okV e
        exact .here rfl
    | elems i d x =>
      simp only [stepW, shQ, k9] at e ⊢
      split at e
      · rename_i h
        rw [if_pos h]
        obtain ⟨rfl, rfl⟩ := okV e
        exact .here rfl
      · rename_i h
        rw [if_neg h]
        obtain ⟨z, k, hz, e⟩ := okW e
        have := ih _ _ _ e trivial
        simp only [shQ, shN_kid] at this
        exact .bind (ih _ _ _ hz trivial) this
    | args i d x =>
      simp only [stepW, shQ, k1, k12, k16, shN_n] at e ⊢
      split at e
      · rename_i h
        rw [if_pos h]
        split at e
        · rename_i h
          rw [if_pos h, H.tx (i + 1) (nz h (by decide))]
          have := ih _ _ _ e trivial
          simp only [shQ, shN_arg] at this
          exact this
        · cases e
      · rename_i h
        rw [if_neg h]
        split at e
        · rename_i h
          rw [if_pos (h.imp id H.close)]
          obtain ⟨rfl, rfl⟩ := okV e
          exact .here rfl
        · rename_i h
          split at e
          · rename_i h2
            have hn : ¬ (x.n = 0 ∨ kdW W' (i + 1) = 11) := by
              rintro (h' | h')
              · exact h (.inl h')
              · have := (k12 i).symm ▸ h2
                rw [h'] at this
                cases this
            rw [if_neg hn, if_pos h2]
            obtain ⟨rfl, rfl⟩ := okV e
            exact .here rfl
          · cases e
    | temps i d x =>
      simp only [stepW, shQ, k1, k12] at e ⊢
      split at e
      · rename_i h
        rw [if_pos h, H.tx i (nz h (by decide))]
        have := ih _ _ _ e trivial
        simp only [shQ, shN_tmp] at this
        exact this
      · rename_i h
        rw [if_neg h]
        split at e
        · rename_i h
          rw [if_pos h]
          obtain ⟨rfl, rfl⟩ := okV e
          exact .here rfl
        · cases e
    | body i d x =>
      simp only [stepW, shQ, k12] at e ⊢
      split at e
      · rename_i h
        rw [if_pos h]
        obtain ⟨z, k, hz, e⟩ := okW e
        exact .bind (ih _ _ _ hz trivial) (ih _ _ _ e trivial)
      · rename_i h
        rw [if_neg h]
        exact ih _ _ _ e trivial
    | stmts i d x =>
      simp only [stepW, shQ, H.stop] at e ⊢
      split at e
      · rename_i h
        rw [if_pos h]
        obtain ⟨rfl, rfl⟩ := okV e
        exact .here rfl
      · rename_i h
        rw [if_neg h]
        obtain ⟨z, k, hz, e⟩ := okW e
        refine .bind (ih _ _ _ hz trivial) ?_
        simp only [k14, shN_kind]
        split at e
        · rename_i h
          rw [if_pos h]
          split at e
          · rename_i h
            rw [if_pos h]
            obtain ⟨rfl, rfl⟩ := okV e
            exact .here (shN_kid _ _).symm
          · rename_i h
            rw [if_neg h]
            have := ih _ _ _ e trivial
            simp only [shQ, shN_kid] at this
            exact this
        · rename_i h
          rw [if_neg h]
          obtain ⟨rfl, rfl⟩ := okV e
          exact .here (shN_kid _ _).symm
    | pat i d x =>
      simp only [stepW, shQ, k1, k2, k3] at e ⊢
      split at e
      · rename_i h
        rw [if_pos h, H.tx i (nz h (by decide))]
        obtain ⟨rfl, rfl⟩ := okV e
        exact .here (shN_say _ _).symm
      · rename_i h
        rw [if_neg h]
        split at e
        · rename_i h
          rw [if_pos h]
          split at e
          · rename_i h2
            rw [if_pos h2, H.tx i (nz h (by decide)), H.tx (i + 1) (nz h2 (by decide))]
            obtain ⟨rfl, rfl⟩ := okV e
            exact .here (by rw [shN_arg, shN_say])
          · cases e
        · rename_i h
          rw [if_neg h]
          split at e
          · rename_i h
            rw [if_pos h]
            exact ih _ _ _ e trivial
          · cases e
    | keyP i d x =>
      simp only [stepW, shQ, k1, k2] at e ⊢
      split at e
      · rename_i h
        rw [if_pos h]
        split at e
        · rename_i h2
          rw [if_pos h2, H.tx i (nz h (by decide)), H.tx (i + 1) (nz h2 (by decide))]
          have := ih _ _ _ e trivial
          simp only [shQ, shN_arg, shN_say] at this
          exact this
        · cases e
      · rename_i h
        rw [if_neg h]
        obtain ⟨rfl, rfl⟩ := okV e
        exact .here rfl
end Go.Proofs.Ytoghhjljmhdioaa
namespace Go.Proofs.Ytoghhjljmhdioaa
def shU (u : Us) : Us := ⟨u.pos + 1, u.name, u.kind, u.depth, u.index, u.write⟩
def shX (o : Except Nat (List Us)) : Except Nat (List Us) := match o with
  | .ok l => .ok (l.map shU)
  | .error p => .error (p + 1)
theorem tmpR_end : ∀ (E : Ev) (l : Ev) (t : List Int) (d : Nat), (∀ x ∈ l, x.1 = []) → tmpR (E ++ l) t d = tmpR E t d
  | [], [], t, d, _ => rfl
  | [], (x, a) :: l, t, d, h => by
    have hx : x = [] := h (x, a) (List.mem_cons_self ..)
    subst hx
    show (match idxR [] t with | some i => some (d, i) | none => tmpR l t (d + 1)) = none
    have := tmpR_end [] l t (d + 1) fun y hy => h y (List.mem_cons_of_mem _ hy)
    rw [List.nil_append] at this
    rw [this]
    rfl
  | (x, a) :: E, l, t, d, h => by
    show (match idxR x t with | some i => some (d, i) | none => tmpR (E ++ l) t (d + 1)) = match idxR x t with | some i => some (d, i) | none => tmpR E t (d + 1)
    rw [tmpR_end E l t (d + 1) h]
theorem tmpR_lt : ∀ {E : Ev} {t : List Int} {d dd i : Nat}, tmpR E t d = some (dd, i) → dd < d + E.length
  | [], t, d, dd, i, h => by cases h
  | (x, a) :: E, t, d, dd, i, h => by
    simp only [tmpR] at h
    rw [List.length_cons]
    split at h
    · cases h; omega
    · have := tmpR_lt h; omega
theorem argR_end {E l : Ev} {d i : Nat} (h : d < E.length) : argR (E ++ l) d i = argR E d i := by
  unfold argR
  rw [List.getD_eq_getElem?_getD, List.getD_eq_getElem?_getD, List.getElem?_append_left h]
theorem namR_end {sl : List (List Int)} {E l : Ev} {t : List Int} (hl : ∀ x ∈ l, x.1 = []) : namR sl (E ++ l) t = namR sl E t := by
  unfold namR
  rw [tmpR_end E l t 0 hl]
theorem namR_three {sl : List (List Int)} {E : Ev} {t : List Int} {d i : Nat} (h : namR sl E t = some (3, d, i)) : d < E.length := by
  unfold namR at h
  split at h
  · rename_i k j hf
    simp only [Option.some.injEq, Prod.mk.injEq] at h
    obtain ⟨rfl, _, _⟩ := h
    unfold fixR at hf
    repeat' split at hf
    all_goals cases hf
  · split at h
    · rename_i hd
      simp only [Option.some.injEq, Prod.mk.injEq] at h
      obtain ⟨_, rfl, rfl⟩ := h
      have := tmpR_lt hd
      omega
    · unfold outR at h
      split at h
      · simp only [Option.some.injEq, Prod.mk.injEq] at h
        exact absurd h.1 (by decide)
      · split at h
        · simp only [Option.some.injEq, Prod.mk.injEq] at h
          exact absurd h.1 (by decide)
        · cases h
theorem varR_end {sl : List (List Int)} {E l l' : Ev} {t : List Int} {p : Nat} {rc : Bool} (hl : ∀ x ∈ l, x.1 = []) (hl' : ∀ x ∈ l', x.1 = []) : varR sl (E ++ l') rc t (p + 1) = shX (varR sl (E ++ l) rc t p) := by
  unfold varR
  rw [namR_end hl, namR_end hl']
  cases namR sl E t with
  | none => rfl
  | some x =>
    obtain ⟨k, d, i⟩ := x
    simp only
    split <;> rfl
theorem setR_end {sl : List (List Int)} {E l l' : Ev} {t : List Int} {p : Nat} (hl : ∀ x ∈ l, x.1 = []) (hl' : ∀ x ∈ l', x.1 = []) : setR sl (E ++ l') t (p + 1) = shX (setR sl (E ++ l) t p) := by
  unfold setR
  rw [namR_end hl, namR_end hl']
  cases hn : namR sl E t with
  | none => rfl
  | some x =>
    obtain ⟨k, d, i⟩ := x
    simp only
    by_cases h3 : k = 3
    · subst h3
      have hd := namR_three hn
      rw [argR_end hd, argR_end hd]
      split <;> rfl
    · have e : ∀ b : Bool, (k = 4 ∨ (k = 3 ∧ b = false)) = (k = 4) := fun b => propext ⟨fun h => h.elim id fun h => absurd h.1 h3, .inl⟩
      simp only [e]
      split <;> rfl
theorem shX_bind {a b : Except Nat (List Us)} : (shX a).bind (fun x => (shX b).bind fun y => .ok (x ++ y)) = shX (a.bind fun x => b.bind fun y => .ok (x ++ y)) := by
  cases a with
  | error p => rfl
  | ok x =>
    cases b with
    | error p => rfl
    | ok y =>
      show Except.ok (x.map shU ++ y.map shU) = Except.ok ((x ++ y).map shU)
      rw [List.map_append]
mutual
theorem prtR_in {sl : List (List Int)} {l l' : Ev} (hl : ∀ x ∈ l, x.1 = []) (hl' : ∀ x ∈ l', x.1 = []) : ∀ (x : Nd) (E : Ev) (rc : Bool), prtR sl (E ++ l') rc (shN x) = shX (prtR sl (E ++ l) rc x)
  | .mk k t p n ns kids, E, rc => by
    rw [shN]
    unfold prtR
    by_cases h5 : k = 5
    · rw [if_pos h5, if_pos h5]
      exact varR_end hl hl'
    rw [if_neg h5, if_neg h5]
    by_cases h6 : k = 6
    · rw [if_pos h6, if_pos h6, setR_end hl hl', prsR_in hl hl' kids E false]
      exact shX_bind
    rw [if_neg h6, if_neg h6]
    by_cases h10 : k = 10
    · rw [if_pos h10, if_pos h10]
      by_cases hs : sndR ns = true
      · rw [if_pos hs, if_pos hs]
        exact prsR_in hl hl' kids ((ns, n) :: E) false
      · rw [if_neg hs, if_neg hs]
        rfl
    rw [if_neg h10, if_neg h10]
    exact prsR_in hl hl' kids E _
theorem prsR_in {sl : List (List Int)} {l l' : Ev} (hl : ∀ x ∈ l, x.1 = []) (hl' : ∀ x ∈ l', x.1 = []) : ∀ (xs : List Nd) (E : Ev) (rc : Bool), prsR sl (E ++ l') rc (shL xs) = shX (prsR sl (E ++ l) rc xs)
  | [], E, rc => by
    rw [shL]
    unfold prsR
    rfl
  | x :: r, E, rc => by
    rw [shL]
    unfold prsR
    rw [prtR_in hl hl' x E rc, prsR_in hl hl' r E false]
    exact shX_bind
end
/-- A unit whose parts stand within a block of a unit. -/
theorem untR_in {sl : List (List Int)} {n : Nd} (hn : n.names = []) (p m : Nat) (x : Nd) (hx : x = .mk 12 [] 0 0 [] [.mk 10 [] p m [] (shL n.kids)]) : untR sl [] x = shX (untR sl [] n) := by
  subst hx
  have h0 : sndR [] = true := rfl
  unfold untR
  rw [hn]
  show (if sndR [] = true then prsR sl [([], 0)] false [.mk 10 [] p m [] (shL n.kids)] else .error 0) = shX (if sndR [] = true then prsR sl [([], n.n)] false n.kids else .error n.pos)
  rw [if_pos h0, if_pos h0]
  have h1 : prsR sl [([], 0)] false [.mk 10 [] p m [] (shL n.kids)] = (prsR sl [([], m), ([], 0)] false (shL n.kids)).bind fun a => .ok (a ++ []) := by
    have e0 : prsR sl [([], 0)] false [] = .ok [] := by rw [prsR]
    have e1 : prtR sl [([], 0)] false (.mk 10 [] p m [] (shL n.kids)) = prsR sl [([], m), ([], 0)] false (shL n.kids) := by
      rw [prtR, if_neg (by decide), if_neg (by decide), if_pos rfl, if_pos h0]
    rw [prsR, e1, e0]
    rfl
  rw [h1]
  have h2 := prsR_in (sl := sl) (l := [([], n.n)]) (l' := [([], m), ([], 0)]) (by simp) (by simp) n.kids [] false
  rw [List.nil_append, List.nil_append] at h2
  rw [h2]
  cases prsR sl [([], n.n)] false n.kids with
  | error p => rfl
  | ok l => show Except.ok (l.map shU ++ []) = _; rw [List.append_nil]; rfl
/-- A part's head changed: kind, text, place. -/
def Nd.as (x : Nd) (k : Int) (t : List Int) (p : Nat) : Nd := .mk k t p x.n x.names x.kids
def asR (k : Int) (t : List Int) (p : Nat) : Rs → Rs
  | .ok y j => .ok (y.as k t p) j
  | .er j c => .er j c
theorem bindA {o : Option Rs} {g g' : Nd → Nat → Option Rs} {h : Rs → Rs} (hh : ∀ j c, h (.er j c) = .er j c) {r : Rs} (e : (o.bind fun r => r.bind g) = some r) (hg : ∀ y j r, g y j = some r → g' y j = some (h r)) : (o.bind fun r => r.bind g') = some (h r) := by
  obtain ⟨x, rfl, e⟩ := bindE e
  rcases rsE e with ⟨j, c, rfl, rfl⟩ | ⟨y, j, rfl, e⟩
  · rw [hh]; rfl
  · exact hg y j r e
theorem temps_as {W : List Tk} (k : Int) (t : List Int) (p : Nat) (f : Nat) : ∀ (i d : Nat) (x : Nd) (r : Rs), runW W f (.temps i d x) = some r → runW W f (.temps i d (x.as k t p)) = some (asR k t p r) := by
  induction f with
  | zero => intro i d x r e; cases e
  | succ f ih =>
    intro i d x r e
    simp only [runW, stepW] at e ⊢
    split at e
    · rename_i h
      rw [if_pos h]
      exact ih _ _ _ _ e
    · rename_i h
      rw [if_neg h]
      split at e
      · rename_i h
        rw [if_pos h]
        cases e
        rfl
      · rename_i h
        rw [if_neg h]
        cases e
        rfl
theorem stmts_as {W : List Tk} (k : Int) (t : List Int) (p : Nat) (f : Nat) : ∀ (i d : Nat) (x : Nd) (r : Rs), runW W f (.stmts i d x) = some r → runW W f (.stmts i d (x.as k t p)) = some (asR k t p r) := by
  induction f with
  | zero => intro i d x r e; cases e
  | succ f ih =>
    intro i d x r e
    simp only [runW, stepW] at e ⊢
    split at e
    · rename_i h
      rw [if_pos h]
      cases e
      rfl
    · rename_i h
      rw [if_neg h]
      refine bindA (fun _ _ => rfl) e fun y j r e => ?_
      split at e
      · rename_i h
        rw [if_pos h]
        split at e
        · rename_i h
          rw [if_pos h]
          cases e
          rfl
        · rename_i h
          rw [if_neg h]
          exact ih _ _ _ _ e
      · rename_i h
        rw [if_neg h]
        cases e
        rfl
theorem body_as {W : List Tk} {i d : Nat} {x : Nd} {r : Rs} (k : Int) (t : List Int) (p : Nat) (h : Reads W (.body i d x) r) : Reads W (.body i d (x.as k t p)) (asR k t p r) := by
  obtain ⟨f, e⟩ := h
  refine ⟨f, ?_⟩
  cases f with
  | zero => cases e
  | succ f =>
    simp only [runW, stepW] at e ⊢
    split at e
    · rename_i h
      rw [if_pos h]
      obtain ⟨x', hx, e⟩ := bindE e
      rw [temps_as k t p f _ _ _ _ hx]
      rcases rsE e with ⟨j, c, rfl, rfl⟩ | ⟨y, j, rfl, e⟩
      · rfl
      · exact stmts_as k t p f _ _ _ _ e
    · rename_i h
      rw [if_neg h]
      exact stmts_as k t p f _ _ _ _ e
end Go.Proofs.Ytoghhjljmhdioaa
namespace Go.Proofs.Ytoghhjljmhdioaa
set_option maxHeartbeats 2000000 in
theorem run_errc {W : List Tk} (f : Nat) : ∀ a j c, runW W f a = some (.er j c) → c = 20 ∨ c = 3 := by
  induction f with
  | zero => intro a j c e; cases e
  | succ f ih =>
    intro a j c e
    have e : stepW W (runW W f) a = some (.er j c) := e
    cases a
    all_goals simp only [stepW, litW] at e
    all_goals repeat' first
      | exact ih _ _ _ e
      | (obtain ⟨x, hx, e'⟩ := bindE e; clear e; rcases rsE e' with ⟨j', c', rfl, hr⟩ | ⟨y, j', rfl, e⟩ <;> clear e' <;> (try (cases hr; exact ih _ _ _ hx)))
      | (split at e)
      | (cases e; done)
      | (cases e; first | exact .inl rfl | exact .inr rfl)
theorem Reads.errc {W : List Tk} {a : Qy} {j : Nat} {c : Int} (h : Reads W a (.er j c)) : c = 20 ∨ c = 3 := by
  obtain ⟨f, hf⟩ := h
  exact run_errc f a j c hf
theorem LexE.some {ss : List Int} {pl : Nat} {er : Int} (h : LexE ss pl er) : er ≠ 0 := by
  rcases h with ⟨_, _, rfl⟩ | ⟨_, _, rfl⟩ <;> decide
/-- A source that is one: its words, and what was read. -/
theorem TreP.one {ss : List Int} {m : Bool} {n : Nd} {pl : Nat} (h : TreP ss m n pl 0) : ∃ W, ss.length ≤ 4096 ∧ lexR rdB0 0 ss = .ok W ∧ ∃ x j k, (m = true → Reads W (.pat 0 0 u0N) (.ok x j)) ∧ (m = false → x = u0N ∧ j = 0) ∧ Reads W (.body j 0 x) (.ok n k) ∧ kdW W k = 0 := by
  rcases h with ⟨hL, _⟩ | ⟨W, hl, hW, hU⟩
  · exact absurd rfl hL.some
  refine ⟨W, hl, hW, ?_⟩
  have body : ∀ x j, BodyR W j x n pl 0 → ∃ k, Reads W (.body j 0 x) (.ok n k) ∧ kdW W k = 0 := by
    rintro x j ⟨r, hr, hm⟩
    cases r with
    | er k c =>
      obtain ⟨_, _, h0⟩ := hm
      rcases hr.errc with h | h <;> (rw [h] at h0; cases h0)
    | ok y k =>
      have hm : if kdW W k = 0 then n = y ∧ pl = 0 ∧ (0 : Int) = 0 else n = zNd ∧ pl = psW W k ∧ (0 : Int) = 20 := hm
      split at hm
      · rename_i hk
        obtain ⟨rfl, _, _⟩ := hm
        exact ⟨k, hr, hk⟩
      · cases hm.2.2
  unfold UnitR at hU
  cases m with
  | true =>
    rw [if_pos rfl] at hU
    obtain ⟨r, hr, hm⟩ := hU
    cases r with
    | er k c =>
      obtain ⟨_, _, h0⟩ := hm
      rcases hr.errc with h | h <;> (rw [h] at h0; cases h0)
    | ok x j =>
      obtain ⟨k, h1, h2⟩ := body x j hm
      exact ⟨x, j, k, fun _ => hr, (fun h => absurd h (by decide)), h1, h2⟩
  | false =>
    rw [if_neg (by decide)] at hU
    obtain ⟨k, h1, h2⟩ := body u0N 0 hU
    exact ⟨u0N, 0, k, (fun h => absurd h (by decide)), (fun _ => ⟨rfl, rfl⟩), h1, h2⟩
/-- Each name of a tree stands at its place. -/
theorem TreP.plc {ss : List Int} {m : Bool} {n : Nd} {pl : Nat} (h : TreP ss m n pl 0) : Plc ss n := by
  obtain ⟨W, _, hW, x, j, k, hm, hf, hb, _⟩ := h.one
  have T := toks_stand hW
  have hu : Plc ss u0N := .leaf (by decide) (by decide)
  have hx : Plc ss x := by
    cases m with
    | true => exact (hm rfl).plc T ⟨hu, by decide, by decide⟩
    | false => rw [(hf rfl).1]; exact hu
  exact hb.plc T hx
theorem inW_lt {W : List Tk} {m i : Nat} (h : i + 1 < W.length) : (inW W m).getD (i + 1) endT = ⟨(W.getD i endT).kind, (W.getD i endT).text, (W.getD i endT).pos + 1⟩ := by
  unfold inW
  have h1 : i < W.length := by omega
  rw [List.getD_cons_succ, List.getD_eq_getElem?_getD, List.getElem?_append_left (by rw [List.length_dropLast, List.length_map]; omega), List.getElem?_dropLast, if_pos (by rw [List.length_map]; omega), List.getElem?_map, List.getElem?_eq_getElem h1, List.getD_eq_getElem?_getD, List.getElem?_eq_getElem h1]
  rfl
theorem inW_last {W : List Tk} {m i : Nat} (h : i + 1 = W.length) : (inW W m).getD (i + 1) endT = ⟨11, [93], m + 1⟩ := by
  unfold inW
  rw [List.getD_cons_succ, List.getD_eq_getElem?_getD, List.getElem?_append_right (by rw [List.length_dropLast, List.length_map]; omega), List.length_dropLast, List.length_map, show i - (W.length - 1) = 0 by omega]
  rfl
theorem inW_end {W : List Tk} {m i : Nat} (h : W.length ≤ i) (h0 : 0 < W.length) : ((inW W m).getD (i + 1) endT).kind = 0 := by
  unfold inW
  rw [List.getD_cons_succ, List.getD_eq_getElem?_getD, List.getElem?_append_right (by rw [List.length_dropLast, List.length_map]; omega), List.length_dropLast, List.length_map]
  obtain ⟨j, hj⟩ : ∃ j, i - (W.length - 1) = j + 1 := ⟨i - W.length, by omega⟩
  rw [hj]
  cases j with
  | zero => rfl
  | succ j => rfl
theorem kd_len {W : List Tk} {i : Nat} (h : W.length ≤ i) : kdW W i = 0 := by
  unfold kdW
  rw [List.getD_eq_getElem?_getD, List.getElem?_eq_none h]
  rfl
theorem wi_in {W : List Tk} {E m : Nat} (hE : EndAt W E) : Wi W (inW W m) := by
  have hl := hE.len
  have lt : ∀ i, kdW W i ≠ 0 → i + 1 < W.length := fun i h => by
    have := hE.lt h
    omega
  refine ⟨fun i => ?_, fun i h => ?_, fun i h => ?_⟩
  · rcases Nat.lt_trichotomy (i + 1) W.length with h | h | h
    · left
      unfold kdW
      rw [inW_lt h]
    · right
      refine ⟨?_, ?_⟩
      · rw [show i = E by omega]; exact hE.last
      · unfold kdW
        rw [inW_last h]
    · left
      rw [kd_len (W := W) (by omega)]
      exact inW_end (by omega) (by omega)
  · unfold txW
    rw [inW_lt (lt i h)]
  · unfold psW
    rw [inW_lt (lt i h)]
/-- The same source within brackets: its tree, one level further in; or it is none. -/
theorem within_tree {ss : List Int} {n n' : Nd} {pl pl' : Nat} {er' : Int} (hb : ∀ x ∈ ss, 0 ≤ x ∧ x < 256) (h : TreP ss false n pl 0) (hn : n.names = []) (h' : TreP (91 :: (ss ++ [93])) false n' pl' er') :
    er' ≠ 0 ∨ ∃ m, n' = .mk 12 [] 0 0 [] [.mk 10 [] 0 m [] (shL n.kids)] := by
  obtain ⟨W, hl, hW, x, j, k, _, hf, hr, hk⟩ := h.one
  obtain ⟨rfl, rfl⟩ := hf rfl
  have hW' := lex_block hW
  refine Decidable.byCases (p := er' = 0) (fun he => ?_) .inl
  subst he
  right
  obtain ⟨W2, _, hW2, x, j, k2, _, hf2, hr2, hk2⟩ := h'.one
  obtain ⟨rfl, rfl⟩ := hf2 rfl
  rw [hW'] at hW2
  cases hW2
  have hS := (src_of hW hl hb).1.ends
  have hlen := hS.len
  have H : Wi W (inW W ss.length) := wi_in hS
  have h10 : kdW (inW W ss.length) 0 = 10 := rfl
  -- where the source's own words end
  have hkE : k = W.length - 1 := by
    obtain ⟨f, e⟩ := hr
    have ha := run_adv hS f _ _ e
    have ha : 0 + 0 ≤ W.length - 1 → 0 + 0 ≤ k ∧ k ≤ W.length - 1 := ha
    have := (ha (Nat.zero_le _)).2
    rcases Nat.lt_or_ge k (W.length - 1) with h | h
    · exact absurd hk (hS.more k h)
    · omega
  have hk11 : kdW (inW W ss.length) (k + 1) = 11 := by
    unfold kdW
    rw [inW_last (by omega)]
  have hkend : kdW (inW W ss.length) (k + 1 + 1) = 0 := inW_end (by omega) (by omega)
  -- no argument ahead
  have h16 : kdW (inW W ss.length) 1 ≠ 16 := by
    intro e'
    have e : kdW W 0 = 16 := (H.is 16 (by decide) (by decide) 0) ▸ e'
    have hbad : Reads W (.body 0 0 u0N) (.er 0 20) := by
      have ne : ∀ c : Int, c ≠ 16 → kdW W 0 ≠ c := fun c hc h => hc (h.symm.trans e)
      exact R_body_plain (R_stmts_er (R_stmt_plain (R_expr_casc (R_casc_er1 (R_prim_bad (ne 1 (by decide)) (ne 8 (by decide)) (ne 10 (by decide)) (ne 4 (by decide)) (ne 5 (by decide)) (ne 6 (by decide)) (ne 17 (by decide)))) (fun h => ne 1 (by decide) h.1)) (ne 13 (by decide))) (ne 0 (by decide)) (ne 11 (by decide))) (ne 12 (by decide))
    cases hr.det hbad
  have ne : ∀ c : Int, c ≠ 10 → kdW (inW W ss.length) 0 ≠ c := fun c hc h => hc (h.symm.trans h10)
  have hargs : Reads (inW W ss.length) (.args (0 + 1) (0 + 1) (.mk 10 [] (psW (inW W ss.length) 0) 0 [] [])) (.ok (.mk 10 [] 0 0 [] []) 1) := R_args_none h16 rfl
  obtain ⟨f, e⟩ := hr
  rcases run_in H f _ _ _ e trivial with h1 | ⟨q, h1⟩
  · have h2 : Reads (inW W ss.length) (.body 1 1 (shN u0N)) (.ok (shN n) (k + 1)) := ⟨f, h1⟩
    have h3 : Reads (inW W ss.length) (.body 1 1 (.mk 10 [] 0 0 [] [])) (.ok ((shN n).as 10 [] 0) (k + 1)) := by
      have := body_as 10 [] 0 h2
      simp only [u0N, shN, shL] at this
      exact this
    have h4 : Reads (inW W ss.length) (.block 0 0) (.ok ((shN n).as 10 [] 0) (k + 1 + 1)) := R_block_go hargs h3 (by decide) hk11
    have no : ∀ c : Int, c ≠ 0 → kdW (inW W ss.length) (k + 1 + 1) ≠ c := fun c hc h => hc (h.symm.trans hkend)
    have h5 : Reads (inW W ss.length) (.casc 0 0) (.ok ((shN n).as 10 [] 0) (k + 1 + 1)) :=
      R_casc_no (R_prim_block h4 h10) (R_keyOf_no (R_unaOf_end (no 1 (by decide))) (R_binOf_end (no 3 (by decide))) (no 2 (by decide))) (no 15 (by decide))
    have h6 : Reads (inW W ss.length) (.body 0 0 u0N) (.ok (u0N.kid ((shN n).as 10 [] 0)) (k + 1 + 1)) :=
      R_body_plain (R_stmts_last (R_stmt_plain (R_expr_casc h5 (fun h => ne 1 (by decide) h.1)) (ne 13 (by decide))) (ne 0 (by decide)) (ne 11 (by decide)) (no 14 (by decide))) (ne 12 (by decide))
    cases hr2.det h6
    refine ⟨n.n, ?_⟩
    unfold Nd.as
    rw [shN_n, shN_names, shN_kids, hn]
    rfl
  · exfalso
    have h2 : Reads (inW W ss.length) (.body 1 1 (shN u0N)) (.er q 3) := ⟨f, h1⟩
    have h3 : Reads (inW W ss.length) (.body 1 1 (.mk 10 [] 0 0 [] [])) (.er q 3) := by
      have := body_as 10 [] 0 h2
      simp only [u0N, shN, shL] at this
      exact this
    have h4 : Reads (inW W ss.length) (.block 0 0) (.er q 3) := R_block_er2 hargs h3 (by decide)
    have h6 : Reads (inW W ss.length) (.body 0 0 u0N) (.er q 3) :=
      R_body_plain (R_stmts_er (R_stmt_plain (R_expr_casc (R_casc_er1 (R_prim_block h4 h10)) (fun h => ne 1 (by decide) h.1)) (ne 13 (by decide))) (ne 0 (by decide)) (ne 11 (by decide))) (ne 12 (by decide))
    cases hr2.det h6
end Go.Proofs.Ytoghhjljmhdioaa
