/- A source's words, as the reader wants them. -/
import Derived.Test.YtoghhjljmhdioaaLexP
import Derived.Test.YtoghhjljmhdioaaLxQ
import Derived.Test.YtoghhjljmhdioaaCon
import Derived.Test.YtoghhjljmhdioaaSgn
import Derived.Test.YtoghhjljmhdioaaKbx
import Derived.Test.YtoghhjljmhdioaaPri
import Derived.Test.YtoghhjljmhdioaaHne
import Derived.Test.YtoghhjljmhdioaaPrs
import Derived.Test.YtoghhjljmhdioaaSet
import Derived.Test.YtoghhjljmhdioaaKof
import Derived.Test.YtoghhjljmhdioaaCas
import Derived.Test.YtoghhjljmhdioaaKey
import Derived.Test.YtoghhjljmhdioaaBlk
import Derived.Test.YtoghhjljmhdioaaInb
import Derived.Test.YtoghhjljmhdioaaExp
import Derived.Test.YtoghhjljmhdioaaOth
import Derived.Test.YtoghhjljmhdioaaStm
namespace Go.Proofs.Ytoghhjljmhdioaa
theorem qtW_short {r t : List Int} {n : Nat} (h : qtW r = some (t, n)) : t.length ≤ 1024 := by
  unfold qtW at h
  split at h
  · cases h
  · split at h
    · cases h; assumption
    · cases h
theorem word_short {rd : List Int → Bool} {r t : List Int} {k : Int} {n : Nat} (h : word rd r = some (k, t, n)) (hk : k = 5 ∨ k = 6) : t.length ≤ 1024 := by
  unfold word at h
  simp only at h
  split at h
  · split at h <;> (cases h; omega)
  · split at h
    · split at h
      · cases h; omega
      · cases h
    · split at h
      · obtain ⟨x, hx, he⟩ := Option.map_eq_some_iff.1 h
        cases he
        exact qtW_short (n := x.2) hx
      · split at h
        · split at h
          · cases h; omega
          · split at h
            · obtain ⟨x, hx, he⟩ := Option.map_eq_some_iff.1 h
              cases he
              exact qtW_short (n := x.2) hx
            · split at h
              · cases h
              · rename_i hb
                cases h
                rw [List.length_take]
                omega
        · split at h
          · cases h; omega
          · split at h
            · split at h <;> (cases h; omega)
            · obtain ⟨x, hx, he⟩ := Option.map_eq_some_iff.1 h
              simp only [Prod.mk.injEq] at he
              omega
theorem qtR_mem (m : Nat) : ∀ {r t : List Int} {n : Nat}, r.length ≤ m → qtR r = some (t, n) → ∀ x ∈ t, x ∈ r := by
  induction m with
  | zero =>
    intro r t n hm h
    obtain rfl : r = [] := List.eq_nil_of_length_eq_zero (by omega)
    cases h
  | succ m ih =>
    intro r t n hm h x hx
    cases r with
    | nil => cases h
    | cons c r =>
      rw [List.length_cons] at hm
      rw [qtR_cons] at h
      split at h
      · rename_i hc
        cases r with
        | nil => cases h; cases hx
        | cons d q =>
          rw [List.length_cons] at hm
          simp only at h
          split at h
          · obtain ⟨z, hz, he⟩ := Option.map_eq_some_iff.1 h
            cases he
            rcases List.mem_cons.1 hx with rfl | hx
            · rw [hc]; exact List.mem_cons_self
            · exact List.mem_cons_of_mem _ (List.mem_cons_of_mem _ (ih (n := z.2) (by omega) hz x hx))
          · cases h; cases hx
      · obtain ⟨z, hz, he⟩ := Option.map_eq_some_iff.1 h
        cases he
        rcases List.mem_cons.1 hx with rfl | hx
        · exact List.mem_cons_self
        · exact List.mem_cons_of_mem _ (ih (n := z.2) (by omega) hz x hx)
theorem qtW_mem {r t : List Int} {n : Nat} (h : qtW r = some (t, n)) : ∀ x ∈ t, x ∈ r := by
  unfold qtW at h
  split at h
  · cases h
  · rename_i hq
    split at h
    · cases h
      intro x hx
      exact List.mem_of_mem_drop (qtR_mem _ (Nat.le_refl _) hq x hx)
    · cases h
theorem word_mem {rd : List Int → Bool} {r t : List Int} {k : Int} {n : Nat} (h : word rd r = some (k, t, n)) : ∀ x ∈ t, x ∈ r := by
  by_cases h5 : k ≠ 5 ∧ k ≠ 6
  · rw [word_text h h5.1 h5.2]
    intro x hx
    exact List.mem_of_mem_take hx
  · unfold word at h
    simp only at h
    split at h
    · split at h <;> (cases h; omega)
    · split at h
      · split at h
        · cases h; omega
        · cases h
      · split at h
        · obtain ⟨x, hx, he⟩ := Option.map_eq_some_iff.1 h
          cases he
          exact qtW_mem (n := x.2) hx
        · split at h
          · split at h
            · cases h; omega
            · split at h
              · obtain ⟨x, hx, he⟩ := Option.map_eq_some_iff.1 h
                cases he
                exact fun y hy => List.mem_of_mem_drop (qtW_mem (n := x.2) hx y hy)
              · split at h
                · cases h
                · cases h
                  exact fun y hy => List.mem_of_mem_drop (List.mem_of_mem_take hy)
          · split at h
            · cases h; omega
            · split at h
              · split at h <;> (cases h; omega)
              · obtain ⟨x, hx, he⟩ := Option.map_eq_some_iff.1 h
                simp only [Prod.mk.injEq] at he
                omega
theorem texts_of (rd : List Int → Bool) (ss : List Int) (n : Nat) : ∀ (p : Nat) (ts : List Tk), ss.length - p ≤ n → p ≤ ss.length → lexR rd p (ss.drop p) = .ok ts → ∀ t ∈ ts, (∀ x ∈ t.text, x ∈ ss) ∧ (t.text.length ≤ 1024 ∨ t.text.length ≤ ss.length) := by
  induction n with
  | zero =>
    intro p ts hn hp h t ht
    have e : p = ss.length := by omega
    subst e
    rw [List.drop_length, lexR_nil] at h
    cases h
    obtain rfl := List.mem_singleton.1 ht
    exact ⟨fun x hx => absurd hx List.not_mem_nil, .inl (Nat.zero_le _)⟩
  | succ n ih =>
    intro p ts hn hp h t ht
    rcases lex_cases rd ss p hp with ⟨e, h1⟩ | ⟨hlt, hb, h1⟩ | ⟨hlt, h34, j, hi, hj, h1⟩ | ⟨hlt, hb, h34, k, u, m, hw, hm, hml, hk, hk2, h1⟩ | ⟨hlt, h1⟩
    · rw [h1] at h
      cases h
      obtain rfl := List.mem_singleton.1 ht
      exact ⟨fun x hx => absurd hx List.not_mem_nil, .inl (Nat.zero_le _)⟩
    · rw [h1] at h; exact ih (p + 1) ts (by omega) (by omega) h t ht
    · rw [h1] at h; exact ih (p + j + 2) ts (by omega) (by omega) h t ht
    · rw [h1] at h
      cases hl : lexR rd (p + m) (ss.drop (p + m)) with
      | error z => rw [hl] at h; cases h
      | ok l =>
        rw [hl] at h
        cases h
        rcases List.mem_cons.1 ht with rfl | ht
        · refine ⟨fun x hx => List.mem_of_mem_drop (word_mem hw x hx), ?_⟩
          show u.length ≤ _ ∨ u.length ≤ _
          by_cases h5 : k = 5 ∨ k = 6
          · have := word_short hw h5; omega
          · rw [word_text hw (fun e => h5 (.inl e)) (fun e => h5 (.inr e)), List.length_take, List.length_drop]; omega
        · exact ih (p + m) l (by omega) (by omega) hl t ht
    · rw [h1] at h; cases h
theorem getD_or {α : Type} (l : List α) (i : Nat) (d : α) : l.getD i d ∈ l ∨ l.getD i d = d := by
  by_cases h : i < l.length
  · left; rw [List.getD_eq_getElem?_getD, List.getElem?_eq_getElem h]; exact List.getElem_mem h
  · right; rw [List.getD_eq_getElem?_getD, List.getElem?_eq_none (by omega)]; rfl
theorem src_of {rd : List Int → Bool} {ss : List Int} {W : List Tk} (h : lexR rd 0 ss = .ok W) (hl : ss.length ≤ 4096) (hb : ∀ x ∈ ss, 0 ≤ x ∧ x < 256) :
    Src W (W.length - 1) ∧ (∀ i, ∀ c ∈ txW W i, 0 ≤ c ∧ c < 256) ∧ (∀ i, psW W i ≤ ss.length) := by
  have h0 : lexR rd 0 (ss.drop 0) = .ok W := h
  have hp := placed rd ss ss.length 0 W (by omega) (Nat.zero_le _) h0
  have ht := texts_of rd ss ss.length 0 W (by omega) (Nat.zero_le _) h0
  have h1 := hp.pos
  have h2 := hp.len
  refine ⟨⟨⟨by omega, ?_, ?_⟩, by omega, ?_⟩, ?_, ?_⟩
  · exact (hp.at_ endT (W.length - 1) (by omega)).2.2.1.2 (by omega)
  · intro m hm hk
    have := (hp.at_ endT m (by omega)).2.2.1.1 hk
    omega
  · intro i
    rcases getD_or W i endT with h | h
    · have := (ht _ h).2
      show (W.getD i endT).text.length ≤ 5000
      omega
    · show (W.getD i endT).text.length ≤ 5000
      rw [h]; exact Nat.zero_le _
  · intro i c hc
    rcases getD_or W i endT with h | h
    · exact hb c ((ht _ h).1 c hc)
    · have hc2 : c ∈ (W.getD i endT).text := hc
      rw [h] at hc2; cases hc2
  · intro i
    show (W.getD i endT).pos ≤ ss.length
    by_cases hi : i < W.length
    · exact (hp.at_ endT i hi).2.1
    · rw [List.getD_eq_getElem?_getD, List.getElem?_eq_none (by omega)]; exact Nat.zero_le _
end Go.Proofs.Ytoghhjljmhdioaa
namespace Go.Proofs.Ytoghhjljmhdioaa
open Go.RowKit
set_option maxRecDepth 100000
theorem binaryOf_con {W : List Tk} {E : Nat} (S : Src W E) {i d : Nat} {x0 : Nd} (hi : i ≤ E) (H : ∀ j, i < j → j ≤ E → Con0 96 W (.una j d) j d) : Con1 84 W (.binOf i d x0) x0 i d := by
  intro w p A v h hAp hA0 hx
  have hpw := h.lt
  obtain ⟨na, nc, ka, kc, _, rfl, _⟩ := NdV.parts hx
  go_enter Try.func84, Try.ntmps84
  go_wp2_with (refine bx25 _ rfl _ rfl _ _ _ _ _ _ _ _ _ _ rfl ?_)
  intro q1 w1 E1 hq1 C1
  go_wp2_with (refine al25 _ rfl rfl ?_)
  intro q2 w2 E2 hq2 C2
  have B02 : Below w.heap.size w w2 := C1.trans (C2.mono C1.size)
  have l1 := lt_of_block E1
  have l2 := lt_of_block E2
  have hq2' : w.heap.size ≤ q2 := Nat.le_trans C1.size hq2
  have hne : q1 ≠ q2 := by omega
  have hqp : q1 ≠ p := by omega
  have hqp2 : q2 ≠ p := by omega
  have hx2 : NdV (fun b => A b ∧ b ≠ q1 ∧ b ≠ q2 ∧ b ≠ p) w2 x0 _ := hx.imp (fun b hb hA => ⟨⟨hA, by omega, by omega, fun e => hAp (e ▸ hA)⟩, B02.block b hb⟩) _ _
  have h2 := (h.fr C1).fr C2
  replace E1 := (C2.block _ l1).trans E1
  have F02 : Fr p w.heap.size w w2 := Fr.of_below B02
  have hZ : ZBox w2 q2 := ⟨_, _, _, _, _, _, E2⟩
  have hs2 : w2.heap.size ≤ w2.heap.size := Nat.le_refl _
  replace l1 := lt_of_block E1
  clear C1 C2 hq2 B02 hx h E2
  go_wp2_with fail
  go_loopw [] (fun wr => ∃ (i' : Nat) (x' : Nd), NBox wr (fun b => A b ∧ b ≠ q1 ∧ b ≠ q2 ∧ b ≠ p) q1 x' ∧ ZBox wr q2 ∧ Rdw wr p W i' (d : Int) 20 ∧ Fr p w.heap.size w wr ∧ i ≤ i' ∧ i' ≤ E ∧ w2.heap.size ≤ wr.heap.size ∧ Hid (∀ r, Reads W (.binOf i' d x') r → Reads W (.binOf i d x0) r)) (fun wr => E - atOf wr p)
  case atStart => exact ⟨i, x0, ⟨na, nc, ka, kc, E1, hx2⟩, hZ, h2, F02, Nat.le_refl _, hi, hs2, fun r hr => hr⟩
  case round =>
    clear E1 hx2 hZ h2 F02
    obtain ⟨i', x, ⟨na, nc, ka, kc, E1, hx2⟩, hZ, h2, F02, hii, hi', hs2, hR⟩ := hrel
    have hat : atOf wr p = i' := h2.atOf
    have X : Sx w p q2 wr W i' (d : Int) 20 := ⟨F02, hZ, h2, hq2', hpw⟩
    clear hZ h2 F02
    go_wp2_with fail
    refine (is_any X.rd (S.lt hi') 3).mono ?_
    rintro e w3 ⟨rfl, B3⟩
    have hs23 : wr.heap.size ≤ w3.heap.size := B3.size
    replace E1 := (B3.block _ (lt_of_block E1)).trans E1
    replace hx2 := hx2.bel B3
    replace X := X.bel B3
    clear B3
    by_cases hk : kdW W i' = 3
    · rw [show (kdW W i' == 3) = true by simp [hk]]
      have hlt : i' < E := S.ends.lt (by rw [hk]; decide)
      go_wp2_with fail
      refine (signed_con S hlt (H _ (by omega) (by omega)) X.rd).mono ?_
      rintro e w4 ⟨r, hr, ha, F4⟩
      have hs34 : w3.heap.size ≤ w4.heap.size := F4.size
      replace E1 := (F4.block _ (lt_of_block E1) hqp).trans E1
      replace hx2 : NdV (fun b => A b ∧ b ≠ q1 ∧ b ≠ q2 ∧ b ≠ p) w4 x _ := hx2.fr F4 (fun b hb hl => ⟨hl, hb.2.2.2⟩)
      cases r with
      | er j c =>
        obtain ⟨v, y, d', rfl, hv, h4⟩ := ha
        obtain ⟨ma, mc, la, lc, _, rfl, _⟩ := NdV.parts hv
        have X2 := X.go F4 h4
        clear X F4
        go_wp2_with (refine as25 _ rfl rfl rfl 6 rfl _ rfl rfl _ _ _ _ _ _ _ _ _ _ (fun _ => rfl) (fun _ => rfl) ?_)
        intro q6 w5 E5 _ B5
        replace X2 := X2.bel B5
        obtain ⟨u0, u1, u2, u3, u4, u5, Eq⟩ := X2.z
        go_wp2_with (refine st25 _ rfl _ _ rfl rfl _ _ _ _ _ _ _ _ _ _ _ rfl rfl Eq ?_)
        intro wz Ez Sz
        go_wp2
        exact bodyPost_ret (results_cellb (a := 4) (t := 36) (b := 5) (by rfl) (by rfl) (by rfl) (load25 Ez)) (by rfl) ⟨_, hR.out _ (R_binOf_er hr hk), ⟨_, _, _, rfl, NdV.zero, (X2.fin Sz).2⟩, (X2.fin Sz).1⟩
      | ok y j =>
        obtain ⟨v, rfl, hv, h4⟩ := ha
        have hj : i' + 1 + 1 ≤ j ∧ j ≤ E := hr.adv S.ends hlt
        obtain ⟨z, hz⟩ : ∃ z, Hid (z = msgN (txW W i') (psW W i') [y]) := ⟨_, rfl⟩
        have hzk : z.kids.length ≤ 90000 := by rw [hz.out]; show 1 ≤ 90000; decide
        rw [← hz.out] at hv
        obtain ⟨ma, mc, la, lc, _, rfl, _⟩ := NdV.parts hv
        have X2 := X.go F4 h4
        have hv2 : NdV (fun b => A b ∧ b ≠ q1 ∧ b ≠ q2 ∧ b ≠ p) w4 z _ := NdV.mono hv (fun b hb hA => ⟨hA0 b (by omega), by omega, by omega, by omega⟩)
        clear X F4 hv
        go_wp2_with (refine as25 _ rfl rfl rfl 6 rfl _ rfl rfl _ _ _ _ _ _ _ _ _ _ (fun _ => rfl) (fun _ => rfl) ?_)
        intro q6 w5 E5 _ B5
        replace X2 := X2.bel B5
        replace hx2 := hx2.bel B5
        replace hv2 := hv2.bel B5
        replace E1 := (B5.block _ (lt_of_block E1)).trans E1
        have hs45 : w4.heap.size ≤ w5.heap.size := B5.size
        obtain ⟨y0, y1, y2, y3, y4, y5, _⟩ := nd_cells E1
        obtain ⟨z0, z1, z2, z3, z4, z5, _⟩ := nd_cells E5
        go_wp2_with fail
        refine (send_any (fun b hb => ⟨hA0 b (by omega), by omega, by omega, by omega⟩) hx2 hv2 hzk).mono ?_
        rintro e w6 ⟨u, rfl, hu, B6⟩
        obtain ⟨oa, oc, pa, pc, _, rfl, _⟩ := NdV.parts hu
        replace X2 := X2.bel B6
        replace E1 := (B6.block _ (lt_of_block E1)).trans E1
        have hs56 : w5.heap.size ≤ w6.heap.size := B6.size
        clear y0 y1 y2 y3 y4 y5 z0 z1 z2 z3 z4 z5 hv2 hx2 B6 B5 E5
        go_wp2_with (refine st25 _ rfl _ _ rfl rfl _ _ _ _ _ _ _ _ _ _ _ rfl rfl E1 ?_)
        intro w7 E7 S7
        have hN7 : NdV (fun b => A b ∧ b ≠ q1 ∧ b ≠ q2 ∧ b ≠ p) w7 (sentN x z) _ := hu.imp (fun b _ hA => ⟨hA, S7.block b hA.2.1⟩) _ _
        have h7 := X2.rd.same (fun b hb => S7.block b (by omega)) (S7.block p (fun e => hqp e.symm))
        have F7 : Fr p w.heap.size w w7 := X2.fr.trans (Fr.of_below (S7.below (B := w.heap.size) hq1)) (Nat.le_refl _)
        have hZ7 : ZBox w7 q2 := X2.z.keep (fun hl => S7.block q2 (fun e => hne e.symm))
        have hR' : Hid (∀ r, Reads W (.binOf j d (sentN x z)) r → Reads W (.binOf i d x0) r) := fun r hr' => hR.out r (R_binOf_go hr (by rw [← hz.out]; exact hr') hk)
        have hs7 : w2.heap.size ≤ w7.heap.size := by rw [S7.size]; omega
        clear S7 hu X2 hz
        go_wp2
        go_roundw
        case rel => exact ⟨j, sentN x z, ⟨oa, oc, pa, pc, E7, hN7⟩, hZ7, h7, F7, by omega, hj.2, hs7, hR'⟩
        case measure => rw [h7.atOf, hat]; omega
    · rw [show (kdW W i' == 3) = false by simp [hk]]
      obtain ⟨z0, z1, z2, z3, z4, z5, _⟩ := nd_cells E1
      obtain ⟨u0, u1, u2, u3, u4, u5, Eq⟩ := X.z
      go_wp2_with (refine st25 _ rfl _ _ rfl rfl _ _ _ _ _ _ _ _ _ _ _ rfl rfl Eq ?_)
      intro wz Ez Sz
      go_wp2
      exact bodyPost_ret (results_cellb (a := 4) (t := 36) (b := 5) (by rfl) (by rfl) (by rfl) (load25 Ez)) (by rfl) ⟨_, hR.out _ (R_binOf_end hk), ⟨_, rfl, hx2.imp (fun b _ hA => ⟨hA.1, Sz.block b hA.2.2.1⟩) _ _, (X.fin Sz).2⟩, (X.fin Sz).1⟩
end Go.Proofs.Ytoghhjljmhdioaa
namespace Go.Proofs.Ytoghhjljmhdioaa
open Go.RowKit
set_option maxRecDepth 100000
/-- What the operations yield. -/
def lstV (x : Nd) (p : Nat) (na ka : Option Addr) (nc kc : Nat) (j : Nat) : Value :=
  ([.agg #[.int .i64 x.kind, .string (strOfNums x.text), .int .i64 (x.pos : Int), .int .i64 (x.n : Int), .slice na x.names.length nc, .slice ka x.kids.length kc],
    .pointer (some ⟨p, 0, none⟩),
    .bool true] : List Value).getD j undef
theorem lstV_list {l : List Value} (hh : l.length = 3) : ∃ v0 v1 v2, l = [v0, v1, v2] := by
  obtain ⟨v0, t0, rfl, h0⟩ := cons_of hh
  obtain ⟨v1, t1, rfl, h1⟩ := cons_of h0
  obtain ⟨v2, t2, rfl, h2⟩ := cons_of h1
  obtain rfl := List.eq_nil_of_length_eq_zero h2
  exact ⟨_, _, _, rfl⟩
set_option maxHeartbeats 2000000 in
theorem list_con {W : List Tk} {E : Nat} (S : Src W E) {i d : Nat} (hlt : i < E) (hd : d ≤ 40) (H : ∀ j, i < j → j ≤ E → d ≠ 40 → Con0 95 W (.elem j (d + 1)) j (d + 1)) : Con0 91 W (.list i d) i d := by
  intro w p h
  have hi : i ≤ E := Nat.le_of_lt hlt
  have f2 := fld2
  go_enter Try.func91, Try.ntmps91
  go_wp2_with (refine al25 _ rfl rfl ?_)
  intro q w1 E1 hq B1
  have X := Sx.start h ⟨_, _, _, _, _, _, E1⟩ hq B1
  have hp := X.hp
  have hq1 := X.z.lt
  have hs1 := X.size
  clear E1 hq B1 h
  go_wp2_with fail
  refine (wordR_any X.rd (S.lt hi)).mono ?_
  rintro e w2 ⟨rfl, B2⟩
  have X2 := X.bel B2
  have hs12 : w1.heap.size ≤ w2.heap.size := B2.size
  clear X B2
  go_wp2_with (refine as25 _ rfl rfl rfl 4 rfl _ rfl rfl _ _ _ _ _ _ _ _ _ _ (fun _ => rfl) (fun _ => rfl) ?_)
  intro q4 w3 E3 hq4 B3
  have K : KBox w3 (fun b => w2.heap.size ≤ b ∧ b ≠ q4) q4 (.mk 4 [] (psW W i) 0 [] []) := KBox.new E3
  have hl4 := lt_of_block E3
  have hs23 : w2.heap.size ≤ w3.heap.size := B3.size
  replace X2 := X2.bel B3
  have hqp4 : q4 ≠ p := by have := X2.hp; omega
  have hAp : ¬ (w2.heap.size ≤ p ∧ p ≠ q4) := by have := X2.hp; omega
  clear E3 B3
  by_cases hd4 : d = 40
  · subst hd4
    go_wp2_with fail
    refine (enter_no X2.rd).mono ?_
    rintro e w5 ⟨rfl, h5, F5⟩
    have X5 := X2.go F5 h5
    clear X2
    obtain ⟨u0, u1, u2, u3, u4, u5, Eq⟩ := X5.z
    go_wp2_with (refine st25 _ rfl _ _ rfl rfl _ _ _ _ _ _ _ _ _ _ _ rfl rfl Eq ?_)
    intro wz Ez Sz
    go_wp2
    exact bodyPost_ret (results_cellb (a := 2) (t := 36) (b := 3) (by rfl) (by rfl) (by rfl) (load25 Ez)) (by rfl) ⟨_, R_list_deep rfl, ⟨_, _, _, rfl, NdV.zero, (X5.fin Sz).2⟩, (X5.fin Sz).1⟩
  · go_wp2_with fail
    refine (enter_yes X2.rd (by omega) (S.lt hi)).mono ?_
    rintro e w5 ⟨rfl, h5, F5⟩
    have hs35 : w3.heap.size ≤ w5.heap.size := F5.size
    replace X2 : Sx w p q w5 W (i + 1) ((d + 1 : Nat) : Int) 20 := X2.go F5 h5
    replace K := K.fr F5 hqp4 hAp
    clear F5 h5
    go_wp2_with fail
    go_loopw [] (fun wr => ∃ (i' : Nat) (x' : Nd), KBox wr (fun b => w2.heap.size ≤ b ∧ b ≠ q4) q4 x' ∧ Sx w p q wr W i' ((d + 1 : Nat) : Int) 20 ∧ i + 1 ≤ i' ∧ i' ≤ E ∧ w5.heap.size ≤ wr.heap.size ∧ x'.kids.length ≤ i' ∧ Hid (x'.names = [] ∧ x'.text = []) ∧ Hid (∀ r, Reads W (.elems i' (d + 1) x') r → Reads W (.list i d) r)) (fun wr => E - atOf wr p)
    case atStart => exact ⟨i + 1, _, K, X2, Nat.le_refl _, hlt, Nat.le_refl _, Nat.zero_le _, ⟨rfl, rfl⟩, fun r hr => R_list_go hr hd4⟩
    case round =>
      clear K X2
      obtain ⟨i', x, K, X, hii, hi', hs5, hxl, hxn, hR⟩ := hrel
      have hat : atOf wr p = i' := X.rd.atOf
      go_wp2_with fail
      refine (is_any X.rd (S.lt hi') 9).mono ?_
      rintro e w6 ⟨rfl, B6⟩
      have hs6 : wr.heap.size ≤ w6.heap.size := B6.size
      replace K := K.bel B6
      replace X := X.bel B6
      clear B6
      by_cases hk : kdW W i' = 9
      · rw [show (kdW W i' == 9) = true by simp [hk]]
        have hlt' : i' < E := S.ends.lt (by rw [hk]; decide)
        have hN := K.nd (by rw [hxn.out.1]; exact Nat.zero_le _) (by have := S.small; omega) (by rw [hxn.out.2]; exact Nat.zero_le _)
        obtain ⟨na, nc, ka, kc, Ek, hv⟩ := hN
        go_wp2_with fail
        have hd1 : (0 : Int) ≤ ((d + 1 : Nat) : Int) ∧ ((d + 1 : Nat) : Int) ≤ 100 := by omega
        have Ekd : w6.drew.heap[q4]? = _ := Ek
        have hZd : ZBox w6.drew q := X.z
        have h6d : Rdw w6.drew p W i' ((d + 1 : Nat) : Int) 20 ∧ Fr p w6.heap.size w6 w6.drew := ⟨X.rd.same (fun _ _ => rfl) rfl, Fr.of_below (Below.refl _ _).drew⟩
        have hqpq : q ≠ p := by have := X.hq; have := X.hp; omega
        refine abstract_act fun A hA => ?_
        have hsz : A.tmps.size = 35 := by rw [hA]; rfl
        have st : A.tmps[3]? = some (u3) := by rw [hA]; rfl
        have s0 : A.tmps[0]? = some (.pointer (some ⟨p, 0, none⟩)) := by rw [hA]; rfl
        have s4 : A.tmps[4]? = some (.pointer (some ⟨q4, 0, none⟩)) := by rw [hA]; rfl
        have s2 : A.tmps[2]? = some (.pointer (some ⟨q, 0, none⟩)) := by rw [hA]; rfl
        refine wp_region_inv' (fun A D a w' => ∃ (l : List Value) (vt : Value), a = (putAll A 32 l).put (some 3) vt ∧ l.length = 3 ∧ (∀ j, j < 3 → D j → l[j]? = some (lstV x p na ka nc kc j)) ∧ (D 4 → vt = .bool true) ∧ (D 3 ∨ w'.heap[q4]? = some (.cells #[.int .i64 x.kind, .string (strOfNums x.text), .int .i64 (x.pos : Int), .int .i64 (x.n : Int), .slice na x.names.length nc, .slice ka x.kids.length kc] 36)) ∧ (D 3 ∨ ZBox w' q) ∧ (D 2 ∨ (Rdw w' p W i' ((d + 1 : Nat) : Int) 20 ∧ Fr p w6.heap.size w6 w')) ∧ (D 3 → ∃ w9, (Rdw w9 p W (i' + 1) (((d + 1 : Nat) : Int) - 1) 20 ∧ Fr p w6.heap.size w6 w9) ∧ w'.heap[q]? = some (.cells #[.int .i64 x.kind, .string (strOfNums x.text), .int .i64 (x.pos : Int), .int .i64 (x.n : Int), .slice na x.names.length nc, .slice ka x.kids.length kc] 36) ∧ St q w9 w') ∧ (D 2 → ¬ D 3 → (Rdw w' p W (i' + 1) (((d + 1 : Nat) : Int) - 1) 20 ∧ Fr p w6.heap.size w6 w'))) (by kernel_rfl) (by kernel_rfl) ?mono ?start ?step ?done
        case mono =>
          rintro D D' a w' hD ⟨l, vt, ha, hlen, hl, hvt, hE, hZ, hN, hQ, hL⟩
          exact ⟨l, vt, ha, hlen, fun j hj h => hl j hj ((hD j).2 h), fun h => hvt ((hD 4).2 h), hE.imp_left (hD 3).1, hZ.imp_left (hD 3).1, hN.imp_left (hD 2).1, fun h => hQ ((hD 3).2 h), fun h h' => hL ((hD 2).2 h) (fun k => h' ((hD 3).1 k))⟩
        case start => exact ⟨_, _, putT_start A 32 3 3 _ (by omega) (by decide) st, (putAll_start A 32 3 (by omega)).2, fun _ _ h => h.elim, fun h => h.elim, .inr (Ekd), .inr (hZd), .inr (h6d), fun h => h.elim, fun h _ => h.elim⟩
        case step =>
          clear hA
          intro i o ho D a w' hI hn hcl hd
          obtain ⟨l, vt, ha, hlen, hl, hvt, hE, hZ, hN, hQ, hL⟩ := hI
          match i, ho with
          | 0, ho =>
            cases Option.some.inj ho
            have ev : a.tmps[4]? = some (.pointer (some ⟨q4, 0, none⟩)) := by rw [ha, putT_other _ _ _ _ (by decide), putAll_low A 32 4 l (by omega) (by decide)]; exact s4
            have e1 := hE.resolve_left (fun h => hn (hcl 3 _ rfl h ⟨0, .data⟩ (by simp) rfl))
            obtain ⟨z0, z1, z2, z3, z4, z5, _⟩ := nd_cells e1
            refine wp_value (w' := w') (v := .agg #[.int .i64 x.kind, .string (strOfNums x.text), .int .i64 (x.pos : Int), .int .i64 (x.n : Int), .slice na x.names.length nc, .slice ka x.kids.length kc]) (by simp [execOp, ev, go_sem, z0, z1, z2, z3, z4, z5]) ?_
            exact ⟨_, vt, by rw [ha]; exact putT_put A 32 0 3 l _ _ (by omega) (by omega) (by decide), by rw [List.length_set]; exact hlen, set_known hlen (by decide) hl, fun h => hvt (h.resolve_left (by decide)), hE.imp_left .inr, hZ.imp_left .inr, hN.imp_left .inr, fun h => hQ (h.resolve_left (by decide)), fun h h' => hL (h.resolve_left (by decide)) (fun k => h' (.inr k))⟩
          | 1, ho =>
            cases Option.some.inj ho
            have ev : a.tmps[0]? = some (.pointer (some ⟨p, 0, none⟩)) := by rw [ha, putT_other _ _ _ _ (by decide), putAll_low A 32 0 l (by omega) (by decide)]; exact s0
            refine wp_value (w' := w') (v := .pointer (some ⟨p, 0, none⟩)) (by simp [execOp, ev, go_sem]) ?_
            exact ⟨_, vt, by rw [ha]; exact putT_put A 32 1 3 l _ _ (by omega) (by omega) (by decide), by rw [List.length_set]; exact hlen, set_known hlen (by decide) hl, fun h => hvt (h.resolve_left (by decide)), hE.imp_left .inr, hZ.imp_left .inr, hN.imp_left .inr, fun h => hQ (h.resolve_left (by decide)), fun h h' => hL (h.resolve_left (by decide)) (fun k => h' (.inr k))⟩
          | 2, ho =>
            cases Option.some.inj ho
            have ev : a.tmps[33]? = some (.pointer (some ⟨p, 0, none⟩)) := known_atT ha hsz hlen hl 1 (by decide) (hd ⟨1, .data⟩ (by simp) rfl)
            have h6 := hN.resolve_left hn
            refine wp_enter (f := 89) (args := #[.pointer (some ⟨p, 0, none⟩), .int .i64 9]) (by simp [execOp, ev, go_sem]) ?_
            refine (leave_yes h6.1 (S.lt hi') hd1 9 hk).mono ?_
            rintro e w6 ⟨rfl, h9, F9⟩
            refine ⟨_, rfl, ?_⟩
            exact ⟨_, vt, by rw [ha]; exact putT_put A 32 2 3 l _ _ (by omega) (by omega) (by decide), by rw [List.length_set]; exact hlen, set_known hlen (by decide) hl, fun h => hvt (h.resolve_left (by decide)), hE.imp .inr (fun h => (F9.block q4 (lt_of_block h) hqp4).trans h), hZ.imp .inr (fun h => h.keep (fun hl => F9.block q hl hqpq)), .inl (.inl rfl), fun h => absurd (h.resolve_left (by decide)) (fun h => hn (hcl 3 _ rfl h ⟨2, .chain⟩ (by simp) rfl)), fun _ _ => ⟨h9, h6.2.trans F9 h6.2.size⟩⟩
          | 3, ho =>
            cases Option.some.inj ho
            have ev : a.tmps[32]? = some (.agg #[.int .i64 x.kind, .string (strOfNums x.text), .int .i64 (x.pos : Int), .int .i64 (x.n : Int), .slice na x.names.length nc, .slice ka x.kids.length kc]) := known_atT ha hsz hlen hl 0 (by decide) (hd ⟨0, .data⟩ (by simp) rfl)
            have e1 := hZ.resolve_left hn
            obtain ⟨u0, u1, u2, u3, u4, u5, e1⟩ := e1
            have e4 : a.tmps[2]? = some (.pointer (some ⟨q, 0, none⟩)) := by rw [ha, putT_other _ _ _ _ (by decide), putAll_low A 32 2 l (by omega) (by decide)]; exact s2
            have L := hL (hd ⟨2, .chain⟩ (by simp) rfl) hn
            refine wp_store_row (P := Try.prog) 36 (.tmp 2) (.tmp 32) rfl q #[.int .i64 x.kind, .string (strOfNums x.text), .int .i64 (x.pos : Int), .int .i64 (x.n : Int), .slice na x.names.length nc, .slice ka x.kids.length kc] (by simpa [Act.eval] using evalS e4) (by simpa [Act.eval] using evalS ev) 36 _ e1 (by kernel_rfl) rfl (by simp [Value.oneCell']) ?_
            exact ⟨l, vt, ha, hlen, fun j hj h => hl j hj (h.resolve_left (by omega)), fun h => hvt (h.resolve_left (by decide)), .inl (.inl rfl), .inl (.inl rfl), .inl (.inr (hd ⟨2, .chain⟩ (by simp) rfl)), fun _ => ⟨w', L, setRow_heap w' q _ _ _ _ e1, St.row w' q _⟩, fun _ h' => absurd (.inl rfl) h'⟩
          | 4, ho =>
            cases Option.some.inj ho
            have ev : a.tmps[34]? = some (.bool true) := known_atT ha hsz hlen hl 2 (by decide) (hd ⟨2, .data⟩ (by simp) rfl)
            refine wp_value (w' := w') (v := .bool true) (by simp [execOp, ev, go_sem]) ?_
            exact ⟨l, (.bool true), by rw [ha]; exact putT_again _ _ _ _, hlen, fun j hj h => hl j hj (h.resolve_left (by omega)), fun _ => rfl, hE.imp_left .inr, hZ.imp_left .inr, hN.imp_left .inr, fun h => hQ (h.resolve_left (by decide)), fun h h' => hL (h.resolve_left (by decide)) (fun k => h' (.inr k))⟩
          | i + 5, ho => simp at ho
        case done =>
          rintro D a w' ⟨l, vt, ha, hlen, hl, hvt, hE, hZ, hN, hQ, hL⟩ hall
          obtain rfl := hvt (hall 4 (by decide))
          obtain ⟨v0, v1, v2, rfl⟩ := lstV_list hlen
          obtain ⟨w9, ⟨L9, F9⟩, Eq, Sq⟩ := hQ (hall 3 (by decide))
          subst hA
          have hfr : a = _ := ha
          rw [hfr]
          clear hfr ha
          simp only [putAll, List.take_succ_cons, List.take_zero, List.drop_succ_cons, List.drop_zero, List.cons_append, List.nil_append, List.length_cons, List.length_nil]
          clear hl hE hZ hN hL hQ hall
          have hs69 := F9.size
          have X9 := X.go F9 L9
          have hv9 := hv.fr F9 (fun b hb hl => ⟨hl, fun e => hAp (e ▸ hb)⟩)
          have hdd : (((d + 1 : Nat) : Int) - 1) = (d : Int) := by omega
          rw [hdd] at X9
          go_wp2
          exact bodyPost_ret (results_cellb (a := 2) (t := 36) (b := 3) (by rfl) (by rfl) (by rfl) (load25 Eq)) (by rfl) ⟨_, hR.out _ (R_elems_end hk), ⟨_, rfl, NdV.imp (fun b _ hA => ⟨by omega, Sq.block b (by omega)⟩) _ _ hv9, (X9.fin Sq).2⟩, (X9.fin Sq).1⟩
      · rw [show (kdW W i' == 9) = false by simp [hk]]
        go_wp2_with fail
        refine (H i' (by omega) hi' hd4 w6 p X.rd).mono ?_
        rintro e w7 ⟨r, hr, ha, F7⟩
        have hs67 : w6.heap.size ≤ w7.heap.size := F7.size
        have X7 := X
        obtain ⟨oa, oc, pa, pc, Ek, sn, rk⟩ := K
        have hko : ∀ b, (Value.slice pa x.kids.length pc).ownBlock = some b → (w2.heap.size ≤ b ∧ b ≠ q4) ∧ b < w6.heap.size := fun b hb => rk.own hb
        replace Ek := (F7.block _ (lt_of_block Ek) hqp4).trans Ek
        replace sn := sn.imp (fun b hb hA => ⟨hA, F7.block b hb (fun e => hAp (e ▸ hA.1))⟩)
        replace rk := rk.keep (fun b hA hb => F7.block b hb (fun e => hAp (e ▸ hA)))
        cases r with
        | er j c =>
          obtain ⟨v, y, d', rfl, hv, h7⟩ := ha
          obtain ⟨na, nc, ka, kc, _, rfl, _⟩ := NdV.parts hv
          replace X7 := X.go F7 h7
          go_wp2_with (refine as25 _ rfl rfl rfl 5 rfl _ rfl rfl _ _ _ _ _ _ _ _ _ _ (fun _ => rfl) (fun _ => rfl) ?_)
          intro q5 w8 E8 _ B8
          replace X7 := X7.bel B8
          obtain ⟨u0, u1, u2, u3, u4, u5, Eq⟩ := X7.z
          go_wp2_with (refine st25 _ rfl _ _ rfl rfl _ _ _ _ _ _ _ _ _ _ _ rfl rfl Eq ?_)
          intro wz Ez Sz
          go_wp2
          exact bodyPost_ret (results_cellb (a := 2) (t := 36) (b := 3) (by rfl) (by rfl) (by rfl) (load25 Ez)) (by rfl) ⟨_, hR.out _ (R_elems_er hr hk), ⟨_, _, _, rfl, NdV.zero, (X7.fin Sz).2⟩, (X7.fin Sz).1⟩
        | ok y j =>
          obtain ⟨v, rfl, hv, h7⟩ := ha
          have hj : i' + 1 ≤ j ∧ j ≤ E := hr.adv S.ends hi'
          obtain ⟨na, nc, ka, kc, _, rfl, _⟩ := NdV.parts hv
          replace X7 := X.go F7 h7
          clear X F7 h7
          go_wp2_with (refine as25 _ rfl rfl rfl 5 rfl _ rfl rfl _ _ _ _ _ _ _ _ _ _ (fun _ => rfl) (fun _ => rfl) ?_)
          intro q5 w8 E8 _ B8
          replace X7 := X7.bel B8
          replace Ek := (B8.block _ (lt_of_block Ek)).trans Ek
          replace sn := sn.imp (fun b hb hA => ⟨hA, B8.block b hb⟩)
          replace rk := rk.keep (fun b _ hb => B8.block b hb)
          replace hv := hv.bel B8
          have hs78 : w7.heap.size ≤ w8.heap.size := B8.size
          clear B8
          obtain ⟨y0, y1, y2, y3, y4, y5, _⟩ := nd_cells Ek
          obtain ⟨z0, z1, z2, z3, z4, z5, _⟩ := nd_cells E8
          go_wp2_with (refine bs25 _ rfl _ rfl _ _ _ _ _ _ _ _ _ _ rfl ?_)
          intro g w9 E9 hg B9
          replace Ek := (B9.block _ (lt_of_block Ek)).trans Ek
          have hs89 : w8.heap.size ≤ w9.heap.size := B9.size
          replace sn := sn.imp (fun b hb hA => ⟨hA, B9.block b hb⟩)
          replace rk := rk.keep (fun b _ hb => B9.block b hb)
          replace hv := hv.bel B9
          replace X7 := X7.bel B9
          clear y0 y1 y2 y3 y4 y5 z0 z1 z2 z3 z4 z5 B9 E8
          go_wp2_with (at_builtin; refine ap25p _ rfl _ _ rfl rfl rk rfl E9 hv ?hA ?hn ?hb ?_)
          case hA =>
            intro b hb hh
            refine ⟨⟨by omega, by omega⟩, fun g' hg' => ?_⟩
            have := hko g' hg'
            omega
          case hn => have := S.small; omega
          case hb => intro b hb; exact ⟨by omega, by omega⟩
          intro va vc w10 R10 K10 pl10
          obtain ⟨K11, S11⟩ := KBox.put Ek sn R10 K10 pl10 (by omega) (fun e => by have := hko _ e; omega)
          replace X7 := (X7.kp K10 (fun g' hg' => by have := hko g' hg'; omega)).st S11 (by omega)
          have hs10 : w9.heap.size ≤ w10.heap.size := K10.size
          have hs11 := S11.size
          obtain ⟨y0, y1, y2, y3, y4, y5, zf⟩ := nd_cells ((K10.block q4 (lt_of_block Ek) (fun e => by have := hko _ e; omega)).trans Ek)
          have zf5 := zf 5
          clear S11 K10 R10 pl10 sn rk hv E9
          go_wp2
          go_roundw
          case rel => exact ⟨j, x.kid y, K11, X7, by omega, hj.2, by omega, by simp [Nd.kid, Nd.kids]; show x.kids.length + 1 ≤ j; omega, ⟨hxn.out.1, hxn.out.2⟩, fun r hr' => hR.out r (R_elems_go hr hr' hk)⟩
          case measure => rw [X7.rd.atOf, hat]; omega
end Go.Proofs.Ytoghhjljmhdioaa
namespace Go.Proofs.Ytoghhjljmhdioaa
structure Alls (W : List Tk) (E i d : Nat) : Prop where
  list : i < E → Con0 91 W (.list i d) i d
  prim : Con0 74 W (.prim i d) i d
  una : Con0 96 W (.una i d) i d
  bin : Con0 94 W (.bin i d) i d
  binOf : ∀ x, Con1 84 W (.binOf i d x) x i d
  keys : ConK W i d
  keyOf : ∀ x, Con1 75 W (.keyOf i d x) x i d
  msg : Con0 88 W (.msg i d) i d
  oth : ∀ s, s.kids ≠ [] → Con1 76 W (.others i d (cascN s)) s i d
  expr : Con0 56 W (.expr i d) i d
  stmt : Con0 44 W (.stmt i d) i d
  stmts : ConN 29 W (fun x => .stmts i d x) i d
  body : ConN 17 W (fun x => .body i d x) i d
  elem : Con0 95 W (.elem i d) i d
/-- At a place, from what holds behind it. -/
theorem alls_at {W : List Tk} {E : Nat} (S : Src W E) (hT : ∀ i, ∀ c ∈ txW W i, 0 ≤ c ∧ c < 256)
    (HST : ∀ i d, i ≤ E → d ≤ 40 → (∀ j, i ≤ j → j ≤ E → Con0 44 W (.stmt j d) j d) → ConN 29 W (fun x => .stmts i d x) i d)
    {i d : Nat} (hi : i ≤ E) (hd : d ≤ 40) (ih : ∀ j d, i < j → j ≤ E → d ≤ 40 → Alls W E j d) : Alls W E i d := by
  have lt : ∀ {k : Int}, kdW W i = k → k ≠ 0 → i < E := fun h hk => S.ends.lt (by rw [h]; exact hk)
  have list : i < E → Con0 91 W (.list i d) i d := fun hlt => list_con S hlt hd fun j h1 h2 h3 => (ih j (d + 1) h1 h2 (by omega)).elem
  have block : i < E → Con0 82 W (.block i d) i d := fun hlt => block_con S hlt hd fun j h1 h2 h3 => (ih j (d + 1) h1 h2 (by omega)).body
  have brk : kdW W i = 8 → Con0 81 W (.prim i d) i d := fun hk => inBrackets_con S (lt hk (by decide)) hd hk fun h => (ih (i + 1) (d + 1) (by omega) (lt hk (by decide)) (by omega)).expr
  have prim : Con0 74 W (.prim i d) i d := primary_con S hi brk (fun hk => block (lt hk (by decide))) (fun hk => list (lt hk (by decide)))
  have una : Con0 96 W (.una i d) i d := unary_con S hi prim
  have binOf : ∀ x, Con1 84 W (.binOf i d x) x i d := fun x => binaryOf_con S hi fun j h1 h2 => (ih j d h1 h2 hd).una
  have bin : Con0 94 W (.bin i d) i d := binary_con S hi una fun x j h1 h2 => (ih j d h1 h2 hd).binOf x
  have keys : ConK W i d := keyed_con S hi fun j h1 h2 => (ih j d h1 h2 hd).bin
  have keyOf : ∀ x, Con1 75 W (.keyOf i d x) x i d := fun x => keyedOf_con S hi
    (fun j x h1 h2 => by
      rcases Nat.eq_or_lt_of_le h1 with e | h
      · subst e; exact binOf x
      · exact (ih j d h h2 hd).binOf x)
    (fun j h1 h2 _ => by
      rcases Nat.eq_or_lt_of_le h1 with e | h
      · subst e; exact keys
      · exact (ih j d h h2 hd).keys)
  have casc : Con0 66 W (.casc i d) i d := cascade_con S hi prim (fun j x h1 h2 => (ih j d h1 h2 hd).keyOf x) (fun k s h1 h2 h3 => (ih k d h1 h2 hd).oth s h3) (fun h hk => keyOf_kids h hk)
  have msg : Con0 88 W (.msg i d) i d := message_con S hi (fun hk => (ih (i + 1) d (by omega) (lt hk (by decide)) hd).una) (fun _ => keys.con0)
  have oth : ∀ s, s.kids ≠ [] → Con1 76 W (.others i d (cascN s)) s i d := fun s hs => others_con S hi hs fun j h1 h2 => (ih j d h1 h2 hd).msg
  have set : kdW W i = 1 → kdW W (i + 1) = 7 → Con0 65 W (.expr i d) i d := fun hk hk7 => set_con S hi hd hk hk7 fun h => (ih (i + 2) (d + 1) (by omega) (by have := S.ends.lt (m := i + 1) (by rw [hk7]; decide); omega) (by omega)).expr
  have expr : Con0 56 W (.expr i d) i d := expression_con S hi set casc
  have stmt : Con0 44 W (.stmt i d) i d := statement_con S hi expr fun hk => (ih (i + 1) d (by omega) (lt hk (by decide)) hd).expr
  have stmts : ConN 29 W (fun x => .stmts i d x) i d := HST i d hi hd fun j h1 h2 => by
    rcases Nat.eq_or_lt_of_le h1 with e | h
    · subst e; exact stmt
    · exact (ih j d h h2 hd).stmt
  have body : ConN 17 W (fun x => .body i d x) i d := body_con S hi fun j h1 h2 => by
    rcases Nat.eq_or_lt_of_le h1 with e | h
    · subst e; exact stmts
    · exact (ih j d h h2 hd).stmts
  have elem : Con0 95 W (.elem i d) i d := element_con S hT hi fun h => list (by rcases h with h | h <;> exact lt h (by decide))
  exact ⟨list, prim, una, bin, binOf, keys, keyOf, msg, oth, expr, stmt, stmts, body, elem⟩
theorem alls {W : List Tk} {E : Nat} (S : Src W E) (hT : ∀ i, ∀ c ∈ txW W i, 0 ≤ c ∧ c < 256)
    (HST : ∀ i d, i ≤ E → d ≤ 40 → (∀ j, i ≤ j → j ≤ E → Con0 44 W (.stmt j d) j d) → ConN 29 W (fun x => .stmts i d x) i d) (n : Nat) : ∀ i d, E - i ≤ n → i ≤ E → d ≤ 40 → Alls W E i d := by
  induction n with
  | zero => intro i d hn hi hd; exact alls_at S hT HST hi hd fun j d' h1 h2 _ => absurd h1 (by omega)
  | succ n ih => intro i d hn hi hd; exact alls_at S hT HST hi hd fun j d' h1 h2 h3 => ih j d' (by omega) h2 h3
end Go.Proofs.Ytoghhjljmhdioaa
namespace Go.Proofs.Ytoghhjljmhdioaa
open Go.RowKit
set_option maxRecDepth 100000
/-- A source that is none for its words alone. -/
def LexE (ss : List Int) (pl : Nat) (er : Int) : Prop :=
  (4096 < ss.length ∧ pl = 0 ∧ er = 3) ∨ (ss.length ≤ 4096 ∧ lexR rdB0 0 ss = .error pl ∧ er = 20)
/-- What a source is read as. -/
def TreP (ss : List Int) (m : Bool) (n : Nd) (pl : Nat) (er : Int) : Prop :=
  (LexE ss pl er ∧ n = zNd) ∨ ∃ W, ss.length ≤ 4096 ∧ lexR rdB0 0 ss = .ok W ∧ UnitR W m n pl er
set_option maxHeartbeats 2000000 in
theorem read_none (ss : List Int) (m : Bool) (pl : Nat) (er : Int) (h3 : er ≠ 0) (w : World)
    (HL : ∀ w, Calls Try.prog 15 #[.string (strOfNums ss)] w fun e w' => e = .returned (.tuple #[.slice none 0 0, .int .i64 (pl : Int), .int .i64 er]) ∧ Below w.heap.size w w') :
    Calls Try.prog 13 #[.string (strOfNums ss), .bool m] w fun e w' => ∃ v, e = .returned (.tuple #[v, .int .i64 (pl : Int), .int .i64 er]) ∧ NdB w.heap.size w' zNd v ∧ Below w.heap.size w w' := by
  have hne : (er != 0) = true := by simp [h3]
  go_enter Try.func13, Try.ntmps13
  go_wp2_with (refine al25 _ rfl rfl ?_)
  intro q w1 E1 hq B1
  go_wp2_with fail
  refine wp_scope_jumps 0 (fun a' w' => False) (fun _ _ => 0) rfl ?_ ?_
  · go_wp2_with fail
    refine (HL w1).mono ?_
    rintro e w2 ⟨rfl, B2⟩
    have B02 : Below w.heap.size w w2 := B1.trans (B2.mono B1.size)
    have E2 : w2.heap[q]? = _ := (B2.block _ (lt_of_block E1)).trans E1
    clear E1 B1 B2
    go_wp2_with (refine st25 _ rfl _ _ rfl rfl _ _ _ _ _ _ _ _ _ _ _ rfl rfl E2 ?_)
    intro w4 E4 S4
    go_wp2
    simp only [Exit.jump]
    exact bodyPost_ret (results_three (a := 4) (t := 36) (b := 5) (c := 6) (by rfl) (by rfl) (by rfl) (by rfl) (load25 E4)) (by rfl) ⟨_, rfl, NdB.zero, B02.trans (S4.below hq)⟩
  · rintro a' w' h
    exact h.elim
theorem tree_read (ss : List Int) (m : Bool) (w : World) (hb : ∀ x ∈ ss, 0 ≤ x ∧ x < 256) (hm : ss.length ≤ 9223372036854775807) :
    Calls Try.prog 13 #[.string (strOfNums ss), .bool m] w fun e w' => ∃ n pl er v, TreP ss m n pl er ∧ e = .returned (.tuple #[v, .int .i64 (pl : Int), .int .i64 er]) ∧ NdB w.heap.size w' n v ∧ Below w.heap.size w w' := by
  by_cases hl : 4096 < ss.length
  · refine (read_none ss m 0 3 (by decide) w fun w => (read_lex ss w hb hm).mono ?_).mono ?_
    · rintro e w' ⟨h, B⟩
      unfold RdP at h
      rw [if_pos hl] at h
      exact ⟨h, B⟩
    · rintro e w' ⟨v, he, hn, B⟩
      exact ⟨zNd, 0, 3, v, .inl ⟨.inl ⟨hl, rfl, rfl⟩, rfl⟩, he, hn, B⟩
  · have hl2 : ss.length ≤ 4096 := by omega
    cases ho : lexR rdB0 0 ss with
    | error p =>
      refine (read_none ss m p 20 (by decide) w fun w => (read_lex ss w hb hm).mono ?_).mono ?_
      · rintro e w' ⟨h, B⟩
        unfold RdP at h
        rw [if_neg hl, ho] at h
        exact ⟨h, B⟩
      · rintro e w' ⟨v, he, hn, B⟩
        exact ⟨zNd, p, 20, v, .inl ⟨.inr ⟨hl2, ho, rfl⟩, rfl⟩, he, hn, B⟩
    | ok W =>
      obtain ⟨S, hT, _⟩ := src_of ho hl2 hb
      have A := alls S hT (fun i d hi _ H => statements_con S hi H) (W.length - 1)
      refine (unit_con S (fun j hj => (A j 0 (by omega) hj (by decide)).body) ss m w fun w => (read_lex ss w hb hm).mono ?_).mono ?_
      · rintro e w' ⟨h, B⟩
        unfold RdP at h
        rw [if_neg hl, ho] at h
        exact ⟨h, B⟩
      · rintro e w' ⟨n, pl, er, v, hu, he, hn, B⟩
        exact ⟨n, pl, er, v, .inr ⟨W, hl2, ho, hu⟩, he, hn, B⟩
/-- Parse and Method. -/
theorem parse_any (f : Nat) (m : Bool) (hf : (f = 10 ∧ m = false) ∨ (f = 11 ∧ m = true)) (ss : List Int) (w : World) (hb : ∀ x ∈ ss, 0 ≤ x ∧ x < 256) (hm : ss.length ≤ 9223372036854775807) :
    Calls Try.prog f #[.string (strOfNums ss)] w fun e w' => ∃ n pl er v, TreP ss m n pl er ∧ e = .returned (.tuple #[v, .int .i64 (pl : Int), .int .i64 er]) ∧ NdB w.heap.size w' n v ∧ Below w.heap.size w w' := by
  rcases hf with ⟨rfl, rfl⟩ | ⟨rfl, rfl⟩
  · go_enter Try.func10, Try.ntmps10
    go_wp2_with (refine al25 _ rfl rfl ?_)
    intro q w1 E1 hq B1
    go_wp2_with fail
    refine (tree_read ss false w1 hb hm).mono ?_
    rintro e w2 ⟨n, pl, er, v, hu, rfl, hn, B2⟩
    obtain ⟨na, nc, ka, kc, _, rfl, _⟩ := NdV.parts hn
    have E2 : w2.heap[q]? = _ := (B2.block _ (lt_of_block E1)).trans E1
    have hql := lt_of_block E1
    go_wp2_with (refine st25 _ rfl _ _ rfl rfl _ _ _ _ _ _ _ _ _ _ _ rfl rfl E2 ?_)
    intro w4 E4 S4
    go_wp2
    exact bodyPost_ret (results_three (a := 2) (t := 36) (b := 3) (c := 4) (by rfl) (by rfl) (by rfl) (by rfl) (load25 E4)) (by rfl) ⟨n, pl, er, _, hu, rfl, hn.imp (fun b _ hA => ⟨by have := B1.size; omega, S4.block b (by omega)⟩) _ _, (B1.trans (B2.mono B1.size)).trans (S4.below hq)⟩
  · go_enter Try.func11, Try.ntmps11
    go_wp2_with (refine al25 _ rfl rfl ?_)
    intro q w1 E1 hq B1
    go_wp2_with fail
    refine (tree_read ss true w1 hb hm).mono ?_
    rintro e w2 ⟨n, pl, er, v, hu, rfl, hn, B2⟩
    obtain ⟨na, nc, ka, kc, _, rfl, _⟩ := NdV.parts hn
    have E2 : w2.heap[q]? = _ := (B2.block _ (lt_of_block E1)).trans E1
    have hql := lt_of_block E1
    go_wp2_with (refine st25 _ rfl _ _ rfl rfl _ _ _ _ _ _ _ _ _ _ _ rfl rfl E2 ?_)
    intro w4 E4 S4
    go_wp2
    exact bodyPost_ret (results_three (a := 2) (t := 36) (b := 3) (c := 4) (by rfl) (by rfl) (by rfl) (by rfl) (load25 E4)) (by rfl) ⟨n, pl, er, _, hu, rfl, hn.imp (fun b _ hA => ⟨by have := B1.size; omega, S4.block b (by omega)⟩) _ _, (B1.trans (B2.mono B1.size)).trans (S4.below hq)⟩
end Go.Proofs.Ytoghhjljmhdioaa
