/- RcOrder: the reckoning. -/
import Derived.Test.YtkkilenokpoaoaaBagsA
namespace Go.Proofs.Ytkkilenokpoaoaa
set_option maxRecDepth 100000
/-- What a Counter's ops come to. -/
def sumN : List Pp → Int
  | [] => 0
  | p :: t => p.n + sumN t
theorem sumN_perm {ps qs : List Pp} (h : ps.Perm qs) : sumN ps = sumN qs := by
  induction h with
  | nil => rfl
  | cons x _ ih => simp only [sumN, ih]
  | swap x y l => simp only [sumN]; omega
  | trans _ _ ih1 ih2 => exact ih1.trans ih2
theorem cnt_play : ∀ (ps : List Pp) (k n : Int) (t x : List (Int × Int)), playS cnt ((k, n) :: t) ps = some x → x = (k, n + sumN ps) :: t
  | [], k, n, t, x, h => by
    simp only [playS, Option.some.injEq] at h
    rw [← h]
    simp [sumN]
  | p :: ps, k, n, t, x, h => by
    simp only [playS, cnt] at h
    split at h
    · cases h
    · rename_i us' e
      split at e
      · rw [Option.some.injEq] at e
        subst e
        rw [cnt_play ps k (n + p.n) t x h]
        simp only [sumN]
        rw [show n + p.n + sumN ps = n + (p.n + sumN ps) by omega]
      · cases e
theorem cnt_order {vs x y : List (Int × Int)} {ps qs : List Pp} (hp : ps.Perm qs) (hx : playS cnt vs ps = some x) (hy : playS cnt vs qs = some y) : x = y := by
  cases vs with
  | nil =>
    cases ps with
    | nil =>
      have : qs = [] := List.Perm.nil_eq hp |>.symm
      subst this
      rw [hx] at hy
      exact Option.some.inj hy
    | cons p t => simp [playS, cnt] at hx
  | cons v t =>
    obtain ⟨k, n⟩ := v
    rw [cnt_play ps k n t x hx, cnt_play qs k n t y hy, sumN_perm hp]
/-- Not greater. -/
def leV (a b : Int × Int) : Prop := a.1 < b.1 ∨ a.1 = b.1 ∧ a.2 ≤ b.2
theorem leV_trans {a b c : Int × Int} (h : leV a b) (k : leV b c) : leV a c := by unfold leV at *; omega
theorem leV_anti {a b : Int × Int} (h : leV a b) (k : leV b a) : a = b := by
  unfold leV at *
  obtain ⟨a1, a2⟩ := a
  obtain ⟨b1, b2⟩ := b
  simp only at h k
  have e1 : a1 = b1 := by omega
  have e2 : a2 = b2 := by omega
  rw [e1, e2]
theorem leV_of_not {a b : Int × Int} (h : ¬ gtV a b = true) : leV a b := by
  unfold gtV at h
  rw [decide_eq_true_eq] at h
  unfold leV
  omega
theorem leV_of_gt {a b : Int × Int} (h : gtV a b = true) : leV b a := by
  unfold gtV at h
  rw [decide_eq_true_eq] at h
  unfold leV
  omega
/-- In order. -/
def Srt (l : List (Int × Int)) : Prop := l.Pairwise leV
theorem gPos_before : ∀ (us : List (Int × Int)) (x v : Int × Int), v ∈ us.take (gPos us x) → leV v x
  | [], _, _, h => by simp at h
  | u :: t, x, v, h => by
    by_cases hg : gtV u x = true
    · simp [gPos, hg] at h
    · simp only [gPos, if_neg hg, List.take_succ_cons, List.mem_cons] at h
      rcases h with rfl | h
      · exact leV_of_not hg
      · exact gPos_before t x v h
theorem gPos_behind : ∀ (us : List (Int × Int)) (x v : Int × Int), Srt us → v ∈ us.drop (gPos us x) → leV x v
  | [], _, _, _, h => by simp at h
  | u :: t, x, v, hs, h => by
    have hs' := List.pairwise_cons.1 hs
    by_cases hg : gtV u x = true
    · simp only [gPos, if_pos hg, List.drop_zero, List.mem_cons] at h
      rcases h with rfl | h
      · exact leV_of_gt hg
      · exact leV_trans (leV_of_gt hg) (hs'.1 v h)
    · simp only [gPos, if_neg hg, List.drop_succ_cons] at h
      exact gPos_behind t x v hs'.2 h
theorem srt_ins {us : List (Int × Int)} (x : Int × Int) (h : Srt us) : Srt (bIns us x) := by
  have hsp : Srt (us.take (gPos us x) ++ us.drop (gPos us x)) := by rw [List.take_append_drop]; exact h
  have h1 := List.pairwise_append.1 hsp
  unfold bIns
  refine List.pairwise_append.2 ⟨h1.1, List.pairwise_cons.2 ⟨fun v hv => gPos_behind us x v h hv, h1.2.1⟩, fun a ha b hb => ?_⟩
  rcases List.mem_cons.1 hb with rfl | hb
  · exact gPos_before us b a ha
  · exact h1.2.2 a ha b hb
theorem srt_rem {us : List (Int × Int)} (x : Int × Int) (h : Srt us) : Srt (bRem us x) := by
  have hsp : Srt (us.take (vPos us x + 1) ++ us.drop (vPos us x + 1)) := by rw [List.take_append_drop]; exact h
  have h1 := List.pairwise_append.1 hsp
  unfold bRem
  refine List.pairwise_append.2 ⟨h1.1.sublist (List.take_sublist_take_left (by omega)), h1.2.1, fun a ha b hb => h1.2.2 a ((List.take_sublist_take_left (by omega)).subset ha) b hb⟩
theorem srt_play : ∀ (ps : List Pp) (us x : List (Int × Int)), Srt us → playS bagS us ps = some x → Srt x
  | [], us, x, h, e => by
    simp only [playS, Option.some.injEq] at e
    rw [← e]
    exact h
  | p :: ps, us, x, h, e => by
    simp only [playS] at e
    split at e
    · cases e
    · rename_i us' e'
      refine srt_play ps us' x ?_ e
      unfold bagS addS at e'
      split at e'
      · split at e'
        · cases e'
        · rw [Option.some.injEq] at e'
          rw [← e']
          exact srt_ins _ h
      · split at e'
        · rw [Option.some.injEq] at e'
          rw [← e']
          exact srt_rem _ h
        · cases e'
/-- What is added, what is taken away. -/
def addsP (ps : List Pp) : List (Int × Int) := (ps.filter fun p => p.add).map fun p => (p.k, p.n)
def remsP (ps : List Pp) : List (Int × Int) := (ps.filter fun p => !p.add).map fun p => (p.k, p.n)
theorem perm_ins (us : List (Int × Int)) (x : Int × Int) : (bIns us x).Perm (x :: us) := by
  unfold bIns
  have := List.perm_middle (a := x) (l₁ := us.take (gPos us x)) (l₂ := us.drop (gPos us x))
  rwa [List.take_append_drop] at this
theorem perm_rem {us : List (Int × Int)} {x : Int × Int} (h : x ∈ us) : us.Perm (x :: bRem us x) := by
  have e := vPos_split us x h
  have := List.perm_middle (a := x) (l₁ := us.take (vPos us x)) (l₂ := us.drop (vPos us x + 1))
  rw [← e] at this
  exact this
theorem bag_perm : ∀ (ps : List Pp) (us x : List (Int × Int)), playS bagS us ps = some x → (us ++ addsP ps).Perm (x ++ remsP ps)
  | [], us, x, e => by
    simp only [playS, Option.some.injEq] at e
    subst e
    simp [addsP, remsP]
  | p :: ps, us, x, e => by
    simp only [playS] at e
    split at e
    · cases e
    · rename_i us' e'
      have ih := bag_perm ps us' x e
      unfold bagS addS at e'
      cases ha : p.add with
      | true =>
        rw [if_pos ha] at e'
        split at e'
        · cases e'
        · rw [Option.some.injEq] at e'
          subst e'
          have e1 : addsP (p :: ps) = (p.k, p.n) :: addsP ps := by simp [addsP, ha]
          have e2 : remsP (p :: ps) = remsP ps := by simp [remsP, ha]
          rw [e1, e2]
          refine List.Perm.trans ?_ ih
          exact (List.perm_middle.trans (List.Perm.append_right _ (perm_ins us (p.k, p.n)).symm))
      | false =>
        rw [if_neg (by rw [ha]; decide)] at e'
        split at e'
        · rename_i hm
          rw [Option.some.injEq] at e'
          subst e'
          have e1 : addsP (p :: ps) = addsP ps := by simp [addsP, ha]
          have e2 : remsP (p :: ps) = (p.k, p.n) :: remsP ps := by simp [remsP, ha]
          rw [e1, e2]
          have h1 := List.Perm.append_right (addsP ps) (perm_rem hm)
          exact h1.trans ((List.Perm.cons _ ih).trans List.perm_middle.symm)
        · cases e'
theorem srt_eq : ∀ (l m : List (Int × Int)), Srt l → Srt m → l.Perm m → l = m
  | [], m, _, _, h => List.Perm.nil_eq h
  | a :: t, m, hl, hm, h => by
    cases m with
    | nil => exact absurd h.length_eq (by simp)
    | cons b s =>
      have h1 := List.pairwise_cons.1 hl
      have h2 := List.pairwise_cons.1 hm
      have ha : leV b a := by
        rcases List.mem_cons.1 (h.subset (List.mem_cons_self ..)) with e | hx
        · rw [e]; unfold leV; omega
        · exact h2.1 a hx
      have hb : leV a b := by
        rcases List.mem_cons.1 (h.symm.subset (List.mem_cons_self ..)) with e | hx
        · rw [e]; unfold leV; omega
        · exact h1.1 b hx
      obtain rfl := leV_anti hb ha
      rw [srt_eq t s h1.2 h2.2 (List.Perm.cons_inv h)]
theorem bag_order {vs x y : List (Int × Int)} {ps qs : List Pp} (hs : Srt vs) (hp : ps.Perm qs) (hx : playS bagS vs ps = some x) (hy : playS bagS vs qs = some y) : x = y := by
  have h1 := bag_perm ps vs x hx
  have h2 := bag_perm qs vs y hy
  have ha : (addsP ps).Perm (addsP qs) := (hp.filter _).map _
  have hr : (remsP ps).Perm (remsP qs) := (hp.filter _).map _
  refine srt_eq x y (srt_play ps vs x hs hx) (srt_play qs vs y hs hy) ?_
  have h3 : (x ++ remsP ps).Perm (y ++ remsP ps) := h1.symm.trans ((List.Perm.append_left vs ha).trans (h2.trans (List.Perm.append_left y hr.symm)))
  exact (List.perm_append_right_iff _).1 h3
theorem srt_of_steps : ∀ (l : List (Int × Int)), (∀ i a b, l[i]? = some a → l[i + 1]? = some b → leV a b) → Srt l
  | [], _ => List.Pairwise.nil
  | [a], _ => List.pairwise_singleton _ _
  | a :: b :: t, h => by
    have ih := srt_of_steps (b :: t) (fun i x y hx hy => h (i + 1) x y hx hy)
    refine List.pairwise_cons.2 ⟨fun v hv => ?_, ih⟩
    have hab : leV a b := h 0 a b rfl rfl
    rcases List.mem_cons.1 hv with rfl | hv
    · exact hab
    · exact leV_trans hab ((List.pairwise_cons.1 ih).1 v hv)
/-- One taken out, at a place. -/
theorem perm_out {l : List Pp} {k : Nat} {p : Pp} (h : l[k]? = some p) : (p :: (l.take k ++ l.drop (k + 1))).Perm l := by
  obtain ⟨hk, e⟩ := List.getElem?_eq_some_iff.1 h
  have : l = l.take k ++ p :: l.drop (k + 1) := by
    rw [← e, ← List.drop_eq_getElem_cons hk, List.take_append_drop]
  have h2 := List.perm_middle (a := p) (l₁ := l.take k) (l₂ := l.drop (k + 1))
  rw [← this] at h2
  exact h2.symm
end Go.Proofs.Ytkkilenokpoaoaa
