/- A source's words, as the reader wants them. -/
import Derived.Test.YtncfmhlikmibaaaGreatDoorLexP
import Derived.Test.YtncfmhlikmibaaaGreatDoorLxQ
import Derived.Test.YtncfmhlikmibaaaGreatDoorCon
import Derived.Test.YtncfmhlikmibaaaGreatDoorTreM
import Derived.Test.YtncfmhlikmibaaaGreatDoorSgn
import Derived.Test.YtncfmhlikmibaaaGreatDoorPrs
import Derived.Test.YtncfmhlikmibaaaGreatDoorPri
import Derived.Test.YtncfmhlikmibaaaGreatDoorSet
import Derived.Test.YtncfmhlikmibaaaGreatDoorLst
import Derived.Test.YtncfmhlikmibaaaGreatDoorKof
import Derived.Test.YtncfmhlikmibaaaGreatDoorCas
import Derived.Test.YtncfmhlikmibaaaGreatDoorKey
import Derived.Test.YtncfmhlikmibaaaGreatDoorBlk
import Derived.Test.YtncfmhlikmibaaaGreatDoorInb
import Derived.Test.YtncfmhlikmibaaaGreatDoorExp
import Derived.Test.YtncfmhlikmibaaaGreatDoorOth
namespace Go.Proofs.YtncfmhlikmibaaaGreatDoor
theorem qtW_short {r t : List Int} {n : Nat} (h : qtW r = some (t, n)) : t.length ≤ 1024 := by
  unfold qtW at h
  split at h
  · cases h
  · split at h
    · cases h; assumption
    · cases h
theorem word_short {rd : List Int → Bool} {r t : List Int} {k : Int} {n : Nat} (h : word rd r = some (k, t, n)) (hk : k = 5 ∨ k = 6) : t.length ≤ 1024 := by
  unfold word at h
  simp only at h
  split at h
  · split at h <;> (cases h; omega)
  · split at h
    · split at h
      · cases h; omega
      · cases h
    · split at h
      · obtain ⟨x, hx, he⟩ := Option.map_eq_some_iff.1 h
        cases he
        exact qtW_short (n := x.2) hx
      · split at h
        · split at h
          · cases h; omega
          · split at h
            · obtain ⟨x, hx, he⟩ := Option.map_eq_some_iff.1 h
              cases he
              exact qtW_short (n := x.2) hx
            · split at h
              · cases h
              · rename_i hb
                cases h
                rw [List.length_take]
                omega
        · split at h
          · cases h; omega
          · split at h
            · split at h <;> (cases h; omega)
            · obtain ⟨x, hx, he⟩ := Option.map_eq_some_iff.1 h
              simp only [Prod.mk.injEq] at he
              omega
theorem qtR_mem (m : Nat) : ∀ {r t : List Int} {n : Nat}, r.length ≤ m → qtR r = some (t, n) → ∀ x ∈ t, x ∈ r := by
  induction m with
  | zero =>
    intro r t n hm h
    obtain rfl : r = [] := List.eq_nil_of_length_eq_zero (by omega)
    cases h
  | succ m ih =>
    intro r t n hm h x hx
    cases r with
    | nil => cases h
    | cons c r =>
      rw [List.length_cons] at hm
      rw [qtR_cons] at h
      split at h
      · rename_i hc
        cases r with
        | nil => cases h; cases hx
        | cons d q =>
          rw [List.length_cons] at hm
          simp only at h
          split at h
          · obtain ⟨z, hz, he⟩ := Option.map_eq_some_iff.1 h
            cases he
            rcases List.mem_cons.1 hx with rfl | hx
            · rw [hc]; exact List.mem_cons_self
            · exact List.mem_cons_of_mem _ (List.mem_cons_of_mem _ (ih (n := z.2) (by omega) hz x hx))
          · cases h; cases hx
      · obtain ⟨z, hz, he⟩ := Option.map_eq_some_iff.1 h
        cases he
        rcases List.mem_cons.1 hx with rfl | hx
        · exact List.mem_cons_self
        · exact List.mem_cons_of_mem _ (ih (n := z.2) (by omega) hz x hx)
theorem qtW_mem {r t : List Int} {n : Nat} (h : qtW r = some (t, n)) : ∀ x ∈ t, x ∈ r := by
  unfold qtW at h
  split at h
  · cases h
  · rename_i hq
    split at h
    · cases h
      intro x hx
      exact List.mem_of_mem_drop (qtR_mem _ (Nat.le_refl _) hq x hx)
    · cases h
theorem word_mem {rd : List Int → Bool} {r t : List Int} {k : Int} {n : Nat} (h : word rd r = some (k, t, n)) : ∀ x ∈ t, x ∈ r := by
  by_cases h5 : k ≠ 5 ∧ k ≠ 6
  · rw [word_text h h5.1 h5.2]
    intro x hx
    exact List.mem_of_mem_take hx
  · unfold word at h
    simp only at h
    split at h
    · split at h <;> (cases h; omega)
    · split at h
      · split at h
        · cases h; omega
        · cases h
      · split at h
        · obtain ⟨x, hx, he⟩ := Option.map_eq_some_iff.1 h
          cases he
          exact qtW_mem (n := x.2) hx
        · split at h
          · split at h
            · cases h; omega
            · split at h
              · obtain ⟨x, hx, he⟩ := Option.map_eq_some_iff.1 h
                cases he
                exact fun y hy => List.mem_of_mem_drop (qtW_mem (n := x.2) hx y hy)
              · split at h
                · cases h
                · cases h
                  exact fun y hy => List.mem_of_mem_drop (List.mem_of_mem_take hy)
          · split at h
            · cases h; omega
            · split at h
              · split at h <;> (cases h; omega)
              · obtain ⟨x, hx, he⟩ := Option.map_eq_some_iff.1 h
                simp only [Prod.mk.injEq] at he
                omega
theorem texts_of (rd : List Int → Bool) (ss : List Int) (n : Nat) : ∀ (p : Nat) (ts : List Tk), ss.length - p ≤ n → p ≤ ss.length → lexR rd p (ss.drop p) = .ok ts → ∀ t ∈ ts, (∀ x ∈ t.text, x ∈ ss) ∧ (t.text.length ≤ 1024 ∨ t.text.length ≤ ss.length) := by
  induction n with
  | zero =>
    intro p ts hn hp h t ht
    have e : p = ss.length := by omega
    subst e
    rw [List.drop_length, lexR_nil] at h
    cases h
    obtain rfl := List.mem_singleton.1 ht
    exact ⟨fun x hx => absurd hx List.not_mem_nil, .inl (Nat.zero_le _)⟩
  | succ n ih =>
    intro p ts hn hp h t ht
    rcases lex_cases rd ss p hp with ⟨e, h1⟩ | ⟨hlt, hb, h1⟩ | ⟨hlt, h34, j, hi, hj, h1⟩ | ⟨hlt, hb, h34, k, u, m, hw, hm, hml, hk, hk2, h1⟩ | ⟨hlt, h1⟩
    · rw [h1] at h
      cases h
      obtain rfl := List.mem_singleton.1 ht
      exact ⟨fun x hx => absurd hx List.not_mem_nil, .inl (Nat.zero_le _)⟩
    · rw [h1] at h; exact ih (p + 1) ts (by omega) (by omega) h t ht
    · rw [h1] at h; exact ih (p + j + 2) ts (by omega) (by omega) h t ht
    · rw [h1] at h
      cases hl : lexR rd (p + m) (ss.drop (p + m)) with
      | error z => rw [hl] at h; cases h
      | ok l =>
        rw [hl] at h
        cases h
        rcases List.mem_cons.1 ht with rfl | ht
        · refine ⟨fun x hx => List.mem_of_mem_drop (word_mem hw x hx), ?_⟩
          show u.length ≤ _ ∨ u.length ≤ _
          by_cases h5 : k = 5 ∨ k = 6
          · have := word_short hw h5; omega
          · rw [word_text hw (fun e => h5 (.inl e)) (fun e => h5 (.inr e)), List.length_take, List.length_drop]; omega
        · exact ih (p + m) l (by omega) (by omega) hl t ht
    · rw [h1] at h; cases h
theorem getD_or {α : Type} (l : List α) (i : Nat) (d : α) : l.getD i d ∈ l ∨ l.getD i d = d := by
  by_cases h : i < l.length
  · left; rw [List.getD_eq_getElem?_getD, List.getElem?_eq_getElem h]; exact List.getElem_mem h
  · right; rw [List.getD_eq_getElem?_getD, List.getElem?_eq_none (by omega)]; rfl
theorem src_of {rd : List Int → Bool} {ss : List Int} {W : List Tk} (h : lexR rd 0 ss = .ok W) (hl : ss.length ≤ 4096) (hb : ∀ x ∈ ss, 0 ≤ x ∧ x < 256) :
    Src W (W.length - 1) ∧ (∀ i, ∀ c ∈ txW W i, 0 ≤ c ∧ c < 256) ∧ (∀ i, psW W i ≤ ss.length) := by
  have h0 : lexR rd 0 (ss.drop 0) = .ok W := h
  have hp := placed rd ss ss.length 0 W (by omega) (Nat.zero_le _) h0
  have ht := texts_of rd ss ss.length 0 W (by omega) (Nat.zero_le _) h0
  have h1 := hp.pos
  have h2 := hp.len
  refine ⟨⟨⟨by omega, ?_, ?_⟩, by omega, ?_⟩, ?_, ?_⟩
  · exact (hp.at_ endT (W.length - 1) (by omega)).2.2.1.2 (by omega)
  · intro m hm hk
    have := (hp.at_ endT m (by omega)).2.2.1.1 hk
    omega
  · intro i
    rcases getD_or W i endT with h | h
    · have := (ht _ h).2
      show (W.getD i endT).text.length ≤ 5000
      omega
    · show (W.getD i endT).text.length ≤ 5000
      rw [h]; exact Nat.zero_le _
  · intro i c hc
    rcases getD_or W i endT with h | h
    · exact hb c ((ht _ h).1 c hc)
    · have hc2 : c ∈ (W.getD i endT).text := hc
      rw [h] at hc2; cases hc2
  · intro i
    show (W.getD i endT).pos ≤ ss.length
    by_cases hi : i < W.length
    · exact (hp.at_ endT i hi).2.1
    · rw [List.getD_eq_getElem?_getD, List.getElem?_eq_none (by omega)]; exact Nat.zero_le _
end Go.Proofs.YtncfmhlikmibaaaGreatDoor
namespace Go.Proofs.YtncfmhlikmibaaaGreatDoor
theorem sentN_kids (r m : Nd) : (sentN r m).kids ≠ [] := by simp [sentN, Nd.kids]
theorem unaOf_kids {W : List Tk} (f : Nat) : ∀ {i d : Nat} {x y : Nd} {k : Nat}, runW W f (.unaOf i d x) = some (.ok y k) → (y = x ∧ k = i) ∨ y.kids ≠ [] := by
  induction f with
  | zero => intro i d x y k e; cases e
  | succ f ih =>
    intro i d x y k e
    simp only [runW, stepW] at e
    split at e
    · rcases ih e with ⟨rfl, _⟩ | h
      · exact Or.inr (sentN_kids _ _)
      · exact Or.inr h
    · cases e; exact Or.inl ⟨rfl, rfl⟩
theorem binOf_kids {W : List Tk} (f : Nat) : ∀ {i d : Nat} {x y : Nd} {k : Nat}, runW W f (.binOf i d x) = some (.ok y k) → (y = x ∧ k = i) ∨ y.kids ≠ [] := by
  induction f with
  | zero => intro i d x y k e; cases e
  | succ f ih =>
    intro i d x y k e
    simp only [runW, stepW] at e
    split at e
    · cases h1 : runW W f (.una (i + 1) d) with
      | none => rw [h1] at e; cases e
      | some r =>
        rw [h1] at e
        cases r with
        | er j c => cases e
        | ok a j =>
          have e2 : runW W f (.binOf j d (sentN x (msgN (txW W i) (psW W i) [a]))) = some (.ok y k) := e
          rcases ih e2 with ⟨rfl, _⟩ | h
          · exact Or.inr (sentN_kids _ _)
          · exact Or.inr h
    · cases e; exact Or.inl ⟨rfl, rfl⟩
theorem keyOf_kids {W : List Tk} {i d k : Nat} {x y : Nd} (h : Reads W (.keyOf i d x) (.ok y k)) (hk : k ≠ i) : y.kids ≠ [] := by
  obtain ⟨f, e⟩ := h
  cases f with
  | zero => cases e
  | succ f =>
    simp only [runW, stepW] at e
    cases h1 : runW W f (.unaOf i d x) with
    | none => rw [h1] at e; cases e
    | some r =>
      rw [h1] at e
      cases r with
      | er j c => cases e
      | ok z j =>
        replace e : ((runW W f (.binOf j d z)).bind fun r => r.bind fun z k => if kdW W k = 2 then (runW W f (.keys k d (msgN [] (psW W k) []))).bind fun r => r.bind fun m l => some (.ok (sentN z m) l) else some (.ok z k)) = some (.ok y k) := e
        cases h2 : runW W f (.binOf j d z) with
        | none => rw [h2] at e; cases e
        | some r =>
          rw [h2] at e
          cases r with
          | er j c => cases e
          | ok z2 l =>
            replace e : (if kdW W l = 2 then (runW W f (.keys l d (msgN [] (psW W l) []))).bind fun r => r.bind fun m l => some (.ok (sentN z2 m) l) else some (.ok z2 l)) = some (.ok y k) := e
            split at e
            · cases h3 : runW W f (.keys l d (msgN [] (psW W l) [])) with
              | none => rw [h3] at e; cases e
              | some r =>
                rw [h3] at e
                cases r with
                | er j c => cases e
                | ok m l2 => cases e; exact sentN_kids _ _
            · cases e
              rcases binOf_kids f h2 with ⟨rfl, rfl⟩ | h
              · rcases unaOf_kids f h1 with ⟨rfl, rfl⟩ | h
                · exact absurd rfl hk
                · exact h
              · exact h
end Go.Proofs.YtncfmhlikmibaaaGreatDoor
namespace Go.Proofs.YtncfmhlikmibaaaGreatDoor
open Go.RowKit
set_option maxRecDepth 100000
theorem binaryOf_con {W : List Tk} {E : Nat} (S : Src W E) {i d : Nat} {x0 : Nd} (hi : i ≤ E) (H : ∀ j, i < j → j ≤ E → Con0 169 W (.una j d) j d) : Con1 150 W (.binOf i d x0) x0 i d := by
  intro w p A v h hAp hA0 hx
  have hpw := h.lt
  obtain ⟨na, nc, ka, kc, _, rfl, _⟩ := NdV.parts hx
  go_enter Tryz.func150, Tryz.ntmps150
  go_wp2_with (refine bx25 _ rfl _ rfl _ _ _ _ _ _ _ _ _ _ rfl ?_)
  intro q1 w1 E1 hq1 C1
  go_wp2_with (refine al25 _ rfl rfl ?_)
  intro q2 w2 E2 hq2 C2
  have B02 : Below w.heap.size w w2 := C1.trans (C2.mono C1.size)
  have l1 := lt_of_block E1
  have l2 := lt_of_block E2
  have hq2' : w.heap.size ≤ q2 := Nat.le_trans C1.size hq2
  have hne : q1 ≠ q2 := by omega
  have hqp : q1 ≠ p := by omega
  have hqp2 : q2 ≠ p := by omega
  have hx2 : NdV (fun b => A b ∧ b ≠ q1 ∧ b ≠ q2 ∧ b ≠ p) w2 x0 _ := hx.imp (fun b hb hA => ⟨⟨hA, by omega, by omega, fun e => hAp (e ▸ hA)⟩, B02.block b hb⟩) _ _
  have h2 := (h.fr C1).fr C2
  replace E1 := (C2.block _ l1).trans E1
  have F02 : Fr p w.heap.size w w2 := Fr.of_below B02
  have hZ : ZBox w2 q2 := ⟨_, _, _, _, _, _, E2⟩
  have hs2 : w2.heap.size ≤ w2.heap.size := Nat.le_refl _
  replace l1 := lt_of_block E1
  clear C1 C2 hq2 B02 hx h E2
  go_wp2_with fail
  go_loopw [] (fun wr => ∃ (i' : Nat) (x' : Nd), NBox wr (fun b => A b ∧ b ≠ q1 ∧ b ≠ q2 ∧ b ≠ p) q1 x' ∧ ZBox wr q2 ∧ Rdw wr p W i' (d : Int) 20 ∧ Fr p w.heap.size w wr ∧ i ≤ i' ∧ i' ≤ E ∧ w2.heap.size ≤ wr.heap.size ∧ Hid (∀ r, Reads W (.binOf i' d x') r → Reads W (.binOf i d x0) r)) (fun wr => E - atOf wr p)
  case atStart => exact ⟨i, x0, ⟨na, nc, ka, kc, E1, hx2⟩, hZ, h2, F02, Nat.le_refl _, hi, hs2, fun r hr => hr⟩
  case round =>
    clear E1 hx2 hZ h2 F02
    obtain ⟨i', x, ⟨na, nc, ka, kc, E1, hx2⟩, hZ, h2, F02, hii, hi', hs2, hR⟩ := hrel
    have hat : atOf wr p = i' := h2.atOf
    have X : Sx w p q2 wr W i' (d : Int) 20 := ⟨F02, hZ, h2, hq2', hpw⟩
    clear hZ h2 F02
    go_wp2_with fail
    refine (is_any X.rd (S.lt hi') 3).mono ?_
    rintro e w3 ⟨rfl, B3⟩
    have hs23 : wr.heap.size ≤ w3.heap.size := B3.size
    replace E1 := (B3.block _ (lt_of_block E1)).trans E1
    replace hx2 := hx2.bel B3
    replace X := X.bel B3
    clear B3
    by_cases hk : kdW W i' = 3
    · rw [show (kdW W i' == 3) = true by simp [hk]]
      have hlt : i' < E := S.ends.lt (by rw [hk]; decide)
      go_wp2_with fail
      refine (signed_con S hlt (H _ (by omega) (by omega)) X.rd).mono ?_
      rintro e w4 ⟨r, hr, ha, F4⟩
      have hs34 : w3.heap.size ≤ w4.heap.size := F4.size
      replace E1 := (F4.block _ (lt_of_block E1) hqp).trans E1
      replace hx2 : NdV (fun b => A b ∧ b ≠ q1 ∧ b ≠ q2 ∧ b ≠ p) w4 x _ := hx2.fr F4 (fun b hb hl => ⟨hl, hb.2.2.2⟩)
      cases r with
      | er j c =>
        obtain ⟨v, y, d', rfl, hv, h4⟩ := ha
        obtain ⟨ma, mc, la, lc, _, rfl, _⟩ := NdV.parts hv
        have X2 := X.go F4 h4
        clear X F4
        go_wp2_with (refine as25 _ rfl rfl rfl 6 rfl _ rfl rfl _ _ _ _ _ _ _ _ _ _ (fun _ => rfl) (fun _ => rfl) ?_)
        intro q6 w5 E5 _ B5
        replace X2 := X2.bel B5
        obtain ⟨u0, u1, u2, u3, u4, u5, Eq⟩ := X2.z
        go_wp2_with (refine st25 _ rfl _ _ rfl rfl _ _ _ _ _ _ _ _ _ _ _ rfl rfl Eq ?_)
        intro wz Ez Sz
        go_wp2
        exact bodyPost_ret (results_cellb (a := 4) (t := 25) (b := 5) (by rfl) (by rfl) (by rfl) (load25 Ez)) (by rfl) ⟨_, hR.out _ (R_binOf_er hr hk), ⟨_, _, _, rfl, NdV.zero, (X2.fin Sz).2⟩, (X2.fin Sz).1⟩
      | ok y j =>
        obtain ⟨v, rfl, hv, h4⟩ := ha
        have hj : i' + 1 + 1 ≤ j ∧ j ≤ E := hr.adv S.ends hlt
        obtain ⟨z, hz⟩ : ∃ z, Hid (z = msgN (txW W i') (psW W i') [y]) := ⟨_, rfl⟩
        have hzk : z.kids.length ≤ 90000 := by rw [hz.out]; show 1 ≤ 90000; decide
        rw [← hz.out] at hv
        obtain ⟨ma, mc, la, lc, _, rfl, _⟩ := NdV.parts hv
        have X2 := X.go F4 h4
        have hv2 : NdV (fun b => A b ∧ b ≠ q1 ∧ b ≠ q2 ∧ b ≠ p) w4 z _ := NdV.mono hv (fun b hb hA => ⟨hA0 b (by omega), by omega, by omega, by omega⟩)
        clear X F4 hv
        go_wp2_with (refine as25 _ rfl rfl rfl 6 rfl _ rfl rfl _ _ _ _ _ _ _ _ _ _ (fun _ => rfl) (fun _ => rfl) ?_)
        intro q6 w5 E5 _ B5
        replace X2 := X2.bel B5
        replace hx2 := hx2.bel B5
        replace hv2 := hv2.bel B5
        replace E1 := (B5.block _ (lt_of_block E1)).trans E1
        have hs45 : w4.heap.size ≤ w5.heap.size := B5.size
        obtain ⟨y0, y1, y2, y3, y4, y5, _⟩ := nd_cells E1
        obtain ⟨z0, z1, z2, z3, z4, z5, _⟩ := nd_cells E5
        go_wp2_with fail
        refine (send_any (fun b hb => ⟨hA0 b (by omega), by omega, by omega, by omega⟩) hx2 hv2 hzk).mono ?_
        rintro e w6 ⟨u, rfl, hu, B6⟩
        obtain ⟨oa, oc, pa, pc, _, rfl, _⟩ := NdV.parts hu
        replace X2 := X2.bel B6
        replace E1 := (B6.block _ (lt_of_block E1)).trans E1
        have hs56 : w5.heap.size ≤ w6.heap.size := B6.size
        clear y0 y1 y2 y3 y4 y5 z0 z1 z2 z3 z4 z5 hv2 hx2 B6 B5 E5
        go_wp2_with (refine st25 _ rfl _ _ rfl rfl _ _ _ _ _ _ _ _ _ _ _ rfl rfl E1 ?_)
        intro w7 E7 S7
        have hN7 : NdV (fun b => A b ∧ b ≠ q1 ∧ b ≠ q2 ∧ b ≠ p) w7 (sentN x z) _ := hu.imp (fun b _ hA => ⟨hA, S7.block b hA.2.1⟩) _ _
        have h7 := X2.rd.same (fun b hb => S7.block b (by omega)) (S7.block p (fun e => hqp e.symm))
        have F7 : Fr p w.heap.size w w7 := X2.fr.trans (Fr.of_below (S7.below (B := w.heap.size) hq1)) (Nat.le_refl _)
        have hZ7 : ZBox w7 q2 := X2.z.keep (fun hl => S7.block q2 (fun e => hne e.symm))
        have hR' : Hid (∀ r, Reads W (.binOf j d (sentN x z)) r → Reads W (.binOf i d x0) r) := fun r hr' => hR.out r (R_binOf_go hr (by rw [← hz.out]; exact hr') hk)
        have hs7 : w2.heap.size ≤ w7.heap.size := by rw [S7.size]; omega
        clear S7 hu X2 hz
        go_wp2
        go_roundw
        case rel => exact ⟨j, sentN x z, ⟨oa, oc, pa, pc, E7, hN7⟩, hZ7, h7, F7, by omega, hj.2, hs7, hR'⟩
        case measure => rw [h7.atOf, hat]; omega
    · rw [show (kdW W i' == 3) = false by simp [hk]]
      obtain ⟨z0, z1, z2, z3, z4, z5, _⟩ := nd_cells E1
      obtain ⟨u0, u1, u2, u3, u4, u5, Eq⟩ := X.z
      go_wp2_with (refine st25 _ rfl _ _ rfl rfl _ _ _ _ _ _ _ _ _ _ _ rfl rfl Eq ?_)
      intro wz Ez Sz
      go_wp2
      exact bodyPost_ret (results_cellb (a := 4) (t := 25) (b := 5) (by rfl) (by rfl) (by rfl) (load25 Ez)) (by rfl) ⟨_, hR.out _ (R_binOf_end hk), ⟨_, rfl, hx2.imp (fun b _ hA => ⟨hA.1, Sz.block b hA.2.2.1⟩) _ _, (X.fin Sz).2⟩, (X.fin Sz).1⟩
end Go.Proofs.YtncfmhlikmibaaaGreatDoor
namespace Go.Proofs.YtncfmhlikmibaaaGreatDoor
structure Alls (W : List Tk) (E i d : Nat) : Prop where
  list : i < E → Con0 163 W (.list i d) i d
  prim : Con0 134 W (.prim i d) i d
  una : Con0 169 W (.una i d) i d
  bin : Con0 166 W (.bin i d) i d
  binOf : ∀ x, Con1 150 W (.binOf i d x) x i d
  keys : ConK W i d
  keyOf : ∀ x, Con1 135 W (.keyOf i d x) x i d
  msg : Con0 154 W (.msg i d) i d
  oth : ∀ s, s.kids ≠ [] → Con1 136 W (.others i d (cascN s)) s i d
  expr : Con0 97 W (.expr i d) i d
  stmt : Con0 72 W (.stmt i d) i d
  stmts : ConN 43 W (fun x => .stmts i d x) i d
  body : ConN 26 W (fun x => .body i d x) i d
  elem : Con0 168 W (.elem i d) i d
/-- At a place, from what holds behind it. -/
theorem alls_at {W : List Tk} {E : Nat} (S : Src W E) (hT : ∀ i, ∀ c ∈ txW W i, 0 ≤ c ∧ c < 256)
    (HST : ∀ i d, i ≤ E → d ≤ 40 → (∀ j, i ≤ j → j ≤ E → Con0 72 W (.stmt j d) j d) → ConN 43 W (fun x => .stmts i d x) i d)
    {i d : Nat} (hi : i ≤ E) (hd : d ≤ 40) (ih : ∀ j d, i < j → j ≤ E → d ≤ 40 → Alls W E j d) : Alls W E i d := by
  have lt : ∀ {k : Int}, kdW W i = k → k ≠ 0 → i < E := fun h hk => S.ends.lt (by rw [h]; exact hk)
  have list : i < E → Con0 163 W (.list i d) i d := fun hlt => list_con S hlt hd fun j h1 h2 h3 => (ih j (d + 1) h1 h2 (by omega)).elem
  have block : i < E → Con0 148 W (.block i d) i d := fun hlt => block_con S hlt hd fun j h1 h2 h3 => (ih j (d + 1) h1 h2 (by omega)).body
  have brk : kdW W i = 8 → Con0 147 W (.prim i d) i d := fun hk => inBrackets_con S (lt hk (by decide)) hd hk fun h => (ih (i + 1) (d + 1) (by omega) (lt hk (by decide)) (by omega)).expr
  have prim : Con0 134 W (.prim i d) i d := primary_con S hi brk (fun hk => block (lt hk (by decide))) (fun hk => list (lt hk (by decide)))
  have una : Con0 169 W (.una i d) i d := unary_con S hi prim
  have binOf : ∀ x, Con1 150 W (.binOf i d x) x i d := fun x => binaryOf_con S hi fun j h1 h2 => (ih j d h1 h2 hd).una
  have bin : Con0 166 W (.bin i d) i d := binary_con S hi una fun x j h1 h2 => (ih j d h1 h2 hd).binOf x
  have keys : ConK W i d := keyed_con S hi fun j h1 h2 => (ih j d h1 h2 hd).bin
  have keyOf : ∀ x, Con1 135 W (.keyOf i d x) x i d := fun x => keyedOf_con S hi
    (fun j x h1 h2 => by
      rcases Nat.eq_or_lt_of_le h1 with e | h
      · subst e; exact binOf x
      · exact (ih j d h h2 hd).binOf x)
    (fun j h1 h2 _ => by
      rcases Nat.eq_or_lt_of_le h1 with e | h
      · subst e; exact keys
      · exact (ih j d h h2 hd).keys)
  have casc : Con0 116 W (.casc i d) i d := cascade_con S hi prim (fun j x h1 h2 => (ih j d h1 h2 hd).keyOf x) (fun k s h1 h2 h3 => (ih k d h1 h2 hd).oth s h3) (fun h hk => keyOf_kids h hk)
  have msg : Con0 154 W (.msg i d) i d := message_con S hi (fun hk => (ih (i + 1) d (by omega) (lt hk (by decide)) hd).una) (fun _ => keys.con0)
  have oth : ∀ s, s.kids ≠ [] → Con1 136 W (.others i d (cascN s)) s i d := fun s hs => others_con S hi hs fun j h1 h2 => (ih j d h1 h2 hd).msg
  have set : kdW W i = 1 → kdW W (i + 1) = 7 → Con0 115 W (.expr i d) i d := fun hk hk7 => set_con S hi hd hk hk7 fun h => (ih (i + 2) (d + 1) (by omega) (by have := S.ends.lt (m := i + 1) (by rw [hk7]; decide); omega) (by omega)).expr
  have expr : Con0 97 W (.expr i d) i d := expression_con S hi set casc
  have stmt : Con0 72 W (.stmt i d) i d := statement_con S hi expr fun hk => (ih (i + 1) d (by omega) (lt hk (by decide)) hd).expr
  have stmts : ConN 43 W (fun x => .stmts i d x) i d := HST i d hi hd fun j h1 h2 => by
    rcases Nat.eq_or_lt_of_le h1 with e | h
    · subst e; exact stmt
    · exact (ih j d h h2 hd).stmt
  have body : ConN 26 W (fun x => .body i d x) i d := body_con S hi fun j h1 h2 => by
    rcases Nat.eq_or_lt_of_le h1 with e | h
    · subst e; exact stmts
    · exact (ih j d h h2 hd).stmts
  have elem : Con0 168 W (.elem i d) i d := element_con S hT hi fun h => list (by rcases h with h | h <;> exact lt h (by decide))
  exact ⟨list, prim, una, bin, binOf, keys, keyOf, msg, oth, expr, stmt, stmts, body, elem⟩
theorem alls {W : List Tk} {E : Nat} (S : Src W E) (hT : ∀ i, ∀ c ∈ txW W i, 0 ≤ c ∧ c < 256)
    (HST : ∀ i d, i ≤ E → d ≤ 40 → (∀ j, i ≤ j → j ≤ E → Con0 72 W (.stmt j d) j d) → ConN 43 W (fun x => .stmts i d x) i d) (n : Nat) : ∀ i d, E - i ≤ n → i ≤ E → d ≤ 40 → Alls W E i d := by
  induction n with
  | zero => intro i d hn hi hd; exact alls_at S hT HST hi hd fun j d' h1 h2 _ => absurd h1 (by omega)
  | succ n ih => intro i d hn hi hd; exact alls_at S hT HST hi hd fun j d' h1 h2 h3 => ih j d' (by omega) h2 h3
end Go.Proofs.YtncfmhlikmibaaaGreatDoor
