/- Sums and products, either way round. -/
import Derived.Test.YtkpngpongbpfgaaDoG
namespace Go.Proofs.Ytkpngpongbpfgaa
open Go.RowKit
set_option maxRecDepth 100000
/-- What comes of any two. -/
def DR (rt hw B : Bool) (E : Int) (M : List Int) (C : Bool → Nat → Nat → Int → Prop) (q ng : Bool) (ms : List Int) (r i : Nat) (se : Int) : Prop :=
  (rt = false ∧ q = false ∧ ng = false ∧ ms = [] ∧ r = 0 ∧ i = 0 ∧ se = 1) ∨ (rt = true ∧ hw = true ∧ q = false ∧ ng = B ∧ ms = M ∧ r = 0 ∧ i = 0 ∧ se = E) ∨ (rt = true ∧ hw = false ∧ ng = false ∧ ms = [] ∧ C q r i se)
theorem dr_turn {rt hw B : Bool} {E : Int} {M : List Int} {C C' : Bool → Nat → Nat → Int → Prop} {q ng q' ng' : Bool} {ms ms' : List Int} {r i r' i' : Nat} {se se' : Int} (h : DR rt hw B E M C q ng ms r i se) (h' : DR rt hw B E M C' q' ng' ms' r' i' se') (hC : C q r i se → C' q' r' i' se' → q = q' ∧ se = se' ∧ Alike r r' ∧ Alike i i') : q = q' ∧ ng = ng' ∧ ms = ms' ∧ se = se' ∧ Alike r r' ∧ Alike i i' := by
  rcases h with ⟨a1, rfl, rfl, rfl, rfl, rfl, rfl⟩ | ⟨a1, a2, rfl, rfl, rfl, rfl, rfl, rfl⟩ | ⟨a1, a2, rfl, rfl, hc⟩
  · rcases h' with ⟨b1, rfl, rfl, rfl, rfl, rfl, rfl⟩ | ⟨b1, _⟩ | ⟨b1, _⟩
    · exact ⟨rfl, rfl, rfl, rfl, .inl rfl, .inl rfl⟩
    · rw [a1] at b1; cases b1
    · rw [a1] at b1; cases b1
  · rcases h' with ⟨b1, _⟩ | ⟨b1, b2, rfl, rfl, rfl, rfl, rfl, rfl⟩ | ⟨b1, b2, _⟩
    · rw [a1] at b1; cases b1
    · exact ⟨rfl, rfl, rfl, rfl, .inl rfl, .inl rfl⟩
    · rw [a2] at b2; cases b2
  · rcases h' with ⟨b1, _⟩ | ⟨b1, b2, _⟩ | ⟨b1, b2, rfl, rfl, hc'⟩
    · rw [a1] at b1; cases b1
    · rw [a2] at b2; cases b2
    · obtain ⟨h1, h2, h3, h4⟩ := hC hc hc'
      exact ⟨h1, rfl, rfl, h2, h3, h4⟩
theorem resC_turn {R : Nat → Nat → Nat → Nat → Nat → Nat → Prop} (hR : ∀ a b c d r i r' i', R a b c d r i → R c d a b r' i' → Alike r r' ∧ Alike i i') {e1 e2 : Int} {a b c d : Nat} {q q' : Bool} {r i r' i' : Nat} {se se' : Int} (h : ResC R e1 e2 a b c d q r i se) (h' : ResC R e2 e1 c d a b q' r' i' se') : q = q' ∧ se = se' ∧ Alike r r' ∧ Alike i i' := by
  rcases h with ⟨a1, a2, rfl, rfl, hr⟩ | ⟨a1, rfl, rfl, rfl, rfl⟩
  · rcases h' with ⟨b1, b2, rfl, rfl, hr'⟩ | ⟨b1, _⟩
    · exact ⟨rfl, rfl, hR _ _ _ _ _ _ _ _ hr hr'⟩
    · rcases b1 with b1 | b1
      · exact absurd a2 b1
      · exact absurd a1 b1
  · rcases h' with ⟨b1, b2, _⟩ | ⟨b1, rfl, rfl, rfl, rfl⟩
    · rcases a1 with a1 | a1
      · exact absurd b2 a1
      · exact absurd b1 a1
    · exact ⟨rfl, rfl, .inl rfl, .inl rfl⟩
theorem sum_turn (n1 n2 : Bool) (X Y : Nat) : sumMag n1 n2 X Y = sumMag n2 n1 Y X ∧ fitB (sumNeg n1 n2 X Y) (sumMag n1 n2 X Y) = fitB (sumNeg n2 n1 Y X) (sumMag n2 n1 Y X) := by
  unfold sumMag sumNeg
  by_cases h : n1 = n2
  · subst h
    simp [Nat.add_comm]
  · have h' : ¬ n2 = n1 := fun k => h k.symm
    simp only [if_neg h, if_neg h']
    by_cases h1 : X < Y
    · have h2 : ¬ Y < X := by omega
      simp [h1, h2]
    · by_cases h2 : Y < X
      · simp [h1, h2]
      · have : X = Y := by omega
        subst this
        simp [fitB]
theorem add_turn (n1 : Bool) (xs : List Int) (n2 : Bool) (ys : List Int) : addB n1 xs n2 n2 ys = addB n2 ys n1 n1 xs ∧ addE n1 xs n2 n2 ys = addE n2 ys n1 n1 xs ∧ addM n1 xs n2 n2 ys = addM n2 ys n1 n1 xs := by
  obtain ⟨h1, h2⟩ := sum_turn n1 n2 (val8 xs) (val8 ys)
  unfold addB addE addM
  rw [h2, h1, Bool.and_comm (rightB n1 xs)]
  exact ⟨rfl, rfl, rfl⟩
theorem mul_turn (n1 : Bool) (xs : List Int) (n2 : Bool) (ys : List Int) : mulB n1 xs n2 ys = mulB n2 ys n1 xs ∧ mulE n1 xs n2 ys = mulE n2 ys n1 xs ∧ mulM n1 xs n2 ys = mulM n2 ys n1 xs := by
  unfold mulB mulE mulM
  rw [Nat.mul_comm (val8 xs), Bool.and_comm (rightB n1 xs), show (n1 != n2) = (n2 != n1) by cases n1 <;> cases n2 <;> rfl]
  exact ⟨rfl, rfl, rfl⟩
/-- plus. -/
def plusR (p1 n1 : Bool) (xs : List Int) (x1 y1 : Nat) (p2 n2 : Bool) (ys : List Int) (x2 y2 : Nat) (q ng : Bool) (ms : List Int) (r i : Nat) (se : Int) : Prop := DR (rightN p1 n1 xs x1 y1 && rightN p2 n2 ys x2 y2) (!p1 && !p2) (addB n1 xs n2 n2 ys) (addE n1 xs n2 n2 ys) (addM n1 xs n2 n2 ys) (ResC (SumR .add) (acE p1 n1 xs) (acE p2 n2 ys) (acX p1 n1 xs x1) (acY p1 y1) (acX p2 n2 ys x2) (acY p2 y2)) q ng ms r i se
theorem plus_turn {p1 n1 p2 n2 : Bool} {xs ys : List Int} {x1 y1 x2 y2 : Nat} {q ng q' ng' : Bool} {ms ms' : List Int} {r i r' i' : Nat} {se se' : Int} (h : plusR p1 n1 xs x1 y1 p2 n2 ys x2 y2 q ng ms r i se) (h' : plusR p2 n2 ys x2 y2 p1 n1 xs x1 y1 q' ng' ms' r' i' se') : q = q' ∧ ng = ng' ∧ ms = ms' ∧ se = se' ∧ Alike r r' ∧ Alike i i' := by
  unfold plusR at h h'
  obtain ⟨t1, t2, t3⟩ := add_turn n1 xs n2 ys
  rw [Bool.and_comm (rightN p2 n2 ys x2 y2), Bool.and_comm (!p2), ← t1, ← t2, ← t3] at h'
  exact dr_turn h h' (resC_turn (R := SumR .add) fun _ _ _ _ _ _ _ _ => sumR_turn)
theorem plus_all {w : World} (p1 n1 p2 n2 : Bool) (x1 y1 x2 y2 : Nat) {ja ka : Option Addr} {jn jc kn kc : Nat} {xs ys : List Int} (h1 : IsB w ja jn jc xs) (h2 : IsB w ka kn kc ys) : Calls Try.prog 9 #[.int .i64 0, .agg #[.bool p1, .bool n1, .slice ja jn jc, .complex .f64 x1 y1], .agg #[.bool p2, .bool n2, .slice ka kn kc, .complex .f64 x2 y2]] w fun e w' => ∃ q ng a n c r i se ms, e = .returned (.tuple #[.agg #[.bool q, .bool ng, .slice a n c, .complex .f64 r i], .bool false, .int .i64 se]) ∧ IsB w' a n c ms ∧ plusR p1 n1 xs x1 y1 p2 n2 ys x2 y2 q ng ms r i se ∧ Below w.heap.size w w' := by
  have nilB : ∀ w : World, IsB w none 0 0 [] := fun w => ⟨rfl, Nat.le_refl _, by decide, fun _ => rfl, by simp, fun h => absurd h (by decide)⟩
  cases hr : (rightN p1 n1 xs x1 y1 && rightN p2 n2 ys x2 y2) with
  | false =>
    refine (does_no 0 p1 n1 p2 n2 x1 y1 x2 y2 h1 h2 hr).mono ?_
    rintro e w' ⟨rfl, B⟩
    exact ⟨_, _, _, _, _, _, _, _, [], rfl, nilB _, .inl ⟨hr, rfl, rfl, rfl, rfl, rfl, rfl⟩, B⟩
  | true =>
    have r1 : rightN p1 n1 xs x1 y1 = true := by cases h : rightN p1 n1 xs x1 y1 <;> simp [h] at hr ⊢
    have r2 : rightN p2 n2 ys x2 y2 = true := by cases h : rightN p2 n2 ys x2 y2 <;> simp [h] at hr ⊢
    cases hp : (!p1 && !p2) with
    | false =>
      refine (does_plusC p1 n1 p2 n2 x1 y1 x2 y2 h1 h2 r1 r2 hp).mono ?_
      rintro e w' ⟨q, r, i, se, rfl, HR, B⟩
      exact ⟨_, _, _, _, _, _, _, _, [], rfl, nilB _, .inr (.inr ⟨hr, hp, rfl, rfl, HR⟩), B⟩
    | true =>
      obtain rfl : p1 = false := by cases p1 <;> simp at hp ⊢
      obtain rfl : p2 = false := by cases p2 <;> simp at hp ⊢
      refine (does_plusI n1 n2 x1 y1 x2 y2 h1 h2 r1 r2).mono ?_
      rintro e w' ⟨a, n, c, rfl, O, B⟩
      obtain ⟨-, a', c', e', I⟩ := O
      simp only [Value.slice.injEq] at e'
      obtain ⟨rfl, rfl, rfl⟩ := e'
      exact ⟨_, _, _, _, _, _, _, _, _, rfl, I, .inr (.inl ⟨hr, rfl, rfl, rfl, rfl, rfl, rfl, rfl⟩), B⟩
/-- timesN. -/
def timesNR (p1 n1 : Bool) (xs : List Int) (x1 y1 : Nat) (p2 n2 : Bool) (ys : List Int) (x2 y2 : Nat) (q ng : Bool) (ms : List Int) (r i : Nat) (se : Int) : Prop := DR (rightN p1 n1 xs x1 y1 && rightN p2 n2 ys x2 y2) (!p1 && !p2) (mulB n1 xs n2 ys) (mulE n1 xs n2 ys) (mulM n1 xs n2 ys) (ResC TimesR (acE p1 n1 xs) (acE p2 n2 ys) (acX p1 n1 xs x1) (acY p1 y1) (acX p2 n2 ys x2) (acY p2 y2)) q ng ms r i se
theorem timesN_turn {p1 n1 p2 n2 : Bool} {xs ys : List Int} {x1 y1 x2 y2 : Nat} {q ng q' ng' : Bool} {ms ms' : List Int} {r i r' i' : Nat} {se se' : Int} (h : timesNR p1 n1 xs x1 y1 p2 n2 ys x2 y2 q ng ms r i se) (h' : timesNR p2 n2 ys x2 y2 p1 n1 xs x1 y1 q' ng' ms' r' i' se') : q = q' ∧ ng = ng' ∧ ms = ms' ∧ se = se' ∧ Alike r r' ∧ Alike i i' := by
  unfold timesNR at h h'
  obtain ⟨t1, t2, t3⟩ := mul_turn n1 xs n2 ys
  rw [Bool.and_comm (rightN p2 n2 ys x2 y2), Bool.and_comm (!p2), ← t1, ← t2, ← t3] at h'
  exact dr_turn h h' (resC_turn (R := TimesR) fun _ _ _ _ _ _ _ _ => timesR_turn)
theorem timesN_all {w : World} (p1 n1 p2 n2 : Bool) (x1 y1 x2 y2 : Nat) {ja ka : Option Addr} {jn jc kn kc : Nat} {xs ys : List Int} (h1 : IsB w ja jn jc xs) (h2 : IsB w ka kn kc ys) : Calls Try.prog 9 #[.int .i64 2, .agg #[.bool p1, .bool n1, .slice ja jn jc, .complex .f64 x1 y1], .agg #[.bool p2, .bool n2, .slice ka kn kc, .complex .f64 x2 y2]] w fun e w' => ∃ q ng a n c r i se ms, e = .returned (.tuple #[.agg #[.bool q, .bool ng, .slice a n c, .complex .f64 r i], .bool false, .int .i64 se]) ∧ IsB w' a n c ms ∧ timesNR p1 n1 xs x1 y1 p2 n2 ys x2 y2 q ng ms r i se ∧ Below w.heap.size w w' := by
  have nilB : ∀ w : World, IsB w none 0 0 [] := fun w => ⟨rfl, Nat.le_refl _, by decide, fun _ => rfl, by simp, fun h => absurd h (by decide)⟩
  cases hr : (rightN p1 n1 xs x1 y1 && rightN p2 n2 ys x2 y2) with
  | false =>
    refine (does_no 2 p1 n1 p2 n2 x1 y1 x2 y2 h1 h2 hr).mono ?_
    rintro e w' ⟨rfl, B⟩
    exact ⟨_, _, _, _, _, _, _, _, [], rfl, nilB _, .inl ⟨hr, rfl, rfl, rfl, rfl, rfl, rfl⟩, B⟩
  | true =>
    have r1 : rightN p1 n1 xs x1 y1 = true := by cases h : rightN p1 n1 xs x1 y1 <;> simp [h] at hr ⊢
    have r2 : rightN p2 n2 ys x2 y2 = true := by cases h : rightN p2 n2 ys x2 y2 <;> simp [h] at hr ⊢
    cases hp : (!p1 && !p2) with
    | false =>
      refine (does_timesC p1 n1 p2 n2 x1 y1 x2 y2 h1 h2 r1 r2 hp).mono ?_
      rintro e w' ⟨q, r, i, se, rfl, HR, B⟩
      exact ⟨_, _, _, _, _, _, _, _, [], rfl, nilB _, .inr (.inr ⟨hr, hp, rfl, rfl, HR⟩), B⟩
    | true =>
      obtain rfl : p1 = false := by cases p1 <;> simp at hp ⊢
      obtain rfl : p2 = false := by cases p2 <;> simp at hp ⊢
      refine (does_timesI n1 n2 x1 y1 x2 y2 h1 h2 r1 r2).mono ?_
      rintro e w' ⟨a, n, c, rfl, O, B⟩
      obtain ⟨-, a', c', e', I⟩ := O
      simp only [Value.slice.injEq] at e'
      obtain ⟨rfl, rfl, rfl⟩ := e'
      exact ⟨_, _, _, _, _, _, _, _, _, rfl, I, .inr (.inl ⟨hr, rfl, rfl, rfl, rfl, rfl, rfl, rfl⟩), B⟩
end Go.Proofs.Ytkpngpongbpfgaa
