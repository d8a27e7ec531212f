/- What a source's words' texts are. -/
import Derived.Test.YtncfmhlikmibaaaGreatDoorShpM
import Derived.Test.YtncfmhlikmibaaaGreatDoorAll
import Derived.Test.YtncfmhlikmibaaaGreatDoorKno
import Derived.Test.YtncfmhlikmibaaaGreatDoorOth
import Derived.Test.YtncfmhlikmibaaaGreatDoorArs
import Derived.Test.YtncfmhlikmibaaaGreatDoorAnyS
namespace Go.Proofs.YtncfmhlikmibaaaGreatDoor
theorem tw_no (p : Int → Bool) (h58 : p 58 = false) : ∀ l : List Int, (l.takeWhile p).count 58 = 0
  | [] => rfl
  | c :: r => by
    rw [List.takeWhile_cons]
    split
    · rename_i hc
      have hne : c ≠ 58 := fun e => by rw [e, h58] at hc; cases hc
      rw [List.count_cons_of_ne hne]
      exact tw_no p h58 r
    · rfl
theorem take_tw (p : Int → Bool) (l : List Int) : l.take (l.takeWhile p).length = l.takeWhile p := by
  have h := List.takeWhile_prefix (l := l) p
  exact (List.prefix_iff_eq_take.1 h).symm
def TokF (k : Int) (t : List Int) : Prop := (k = 1 → argsL t = 0) ∧ (k = 3 → argsL t = 1) ∧ (k = 2 → (∃ c q, t = c :: q ∧ letB c = true) ∧ t.count 58 = 1)
theorem TokF.other {k : Int} {t : List Int} (h1 : k ≠ 1) (h3 : k ≠ 3) (h2 : k ≠ 2) : TokF k t := ⟨fun h => absurd h h1, fun h => absurd h h3, fun h => absurd h h2⟩
theorem sgB_let {c : Int} (h : sgB c = true) : letB c = false := by
  unfold sgB at h
  have : ∀ x ∈ sgs, letB x = false := by decide
  exact this c (by simpa using h)
theorem word_tok {rd : List Int → Bool} {r t : List Int} {k : Int} {n : Nat} (h : word rd r = some (k, t, n)) : TokF k t := by
  cases r with
  | nil =>
    have h0 : word rd [] = none := rfl
    rw [h0] at h
    cases h
  | cons c q =>
    unfold word at h
    simp only at h
    have hg : (c :: q).getD 0 0 = c := rfl
    rw [hg] at h
    split at h
    · rename_i hl
      have hn : nmLen (c :: q) = ((c :: q).takeWhile nmB).length := by unfold nmLen; rw [hg, if_pos hl]
      have htw : (c :: q).takeWhile nmB = c :: q.takeWhile nmB := List.takeWhile_cons_of_pos (letB_nm hl)
      split at h
      · rename_i hlo
        cases h
        have h1 : (c :: q).take (nmLen (c :: q) + 1) = (c :: q).takeWhile nmB ++ [58] := by
          have hlt : nmLen (c :: q) < (c :: q).length := by
            have := lone_len hlo
            rw [List.length_drop] at this
            omega
          rw [List.take_succ_eq_append_getElem hlt]
          congr 1
          · rw [hn, take_tw]
          · have h2 : ((c :: q).drop (nmLen (c :: q))).getD 0 0 = 58 := by
              unfold lone at hlo
              rw [Bool.and_eq_true] at hlo
              simpa using hlo.1
            rw [List.drop_eq_getElem_cons hlt] at h2
            have h3 : (c :: q)[nmLen (c :: q)] = 58 := h2
            rw [h3]
        rw [h1]
        refine ⟨fun h => absurd h (by decide), fun h => absurd h (by decide), fun _ => ⟨⟨c, q.takeWhile nmB ++ [58], by rw [htw]; rfl, hl⟩, ?_⟩⟩
        rw [List.count_append, tw_no nmB (by decide)]
        rfl
      · cases h
        refine ⟨fun _ => ?_, fun h => absurd h (by decide), fun h => absurd h (by decide)⟩
        rw [hn, take_tw]
        have h0 := tw_no nmB (by decide) (c :: q)
        rw [htw] at h0 ⊢
        show (if letB c then (c :: q.takeWhile nmB).count 58 else 1) = 0
        rw [if_pos hl]
        exact h0
    · split at h
      · split at h
        · cases h; exact .other (by decide) (by decide) (by decide)
        · cases h
      · split at h
        · obtain ⟨x, hx, he⟩ := Option.map_eq_some_iff.1 h
          cases he
          exact .other (by decide) (by decide) (by decide)
        · split at h
          · split at h
            · cases h; exact .other (by decide) (by decide) (by decide)
            · split at h
              · obtain ⟨x, hx, he⟩ := Option.map_eq_some_iff.1 h
                cases he
                exact .other (by decide) (by decide) (by decide)
              · split at h
                · cases h
                · cases h; exact .other (by decide) (by decide) (by decide)
          · split at h
            · rename_i hs
              cases h
              refine ⟨fun h => absurd h (by decide), fun _ => ?_, fun h => absurd h (by decide)⟩
              have h1 : 0 < sgLen (c :: q) := by
                unfold sgLen
                rw [show (c :: q).take 2 = c :: q.take 1 from rfl, List.takeWhile_cons_of_pos hs]
                simp
              obtain ⟨m, hm⟩ : ∃ m, sgLen (c :: q) = m + 1 := ⟨sgLen (c :: q) - 1, by omega⟩
              rw [hm]
              show (if letB c then (c :: q.take m).count 58 else 1) = 1
              rw [if_neg (by rw [sgB_let hs]; decide)]
            · split at h
              · split at h <;> (cases h; exact .other (by decide) (by decide) (by decide))
              · obtain ⟨x, hx, he⟩ := Option.map_eq_some_iff.1 h
                cases he
                exact .other (by omega) (by omega) (by omega)
theorem toksF (rd : List Int → Bool) (ss : List Int) (n : Nat) : ∀ (p : Nat) (ts : List Tk), ss.length - p ≤ n → p ≤ ss.length → lexR rd p (ss.drop p) = .ok ts → ∀ t ∈ ts, TokF t.kind t.text := by
  induction n with
  | zero =>
    intro p ts hn hp h t ht
    rw [List.drop_of_length_le (by omega), lexR_nil] at h
    cases h
    obtain rfl := List.mem_singleton.1 ht
    exact TokF.other (k := 0) (by decide) (by decide) (by decide)
  | succ n ih =>
    intro p ts hn hp h t ht
    rcases lex_cases rd ss p hp with ⟨e, h1⟩ | ⟨hlt, hb, h1⟩ | ⟨hlt, h34, j, hi, hj, h1⟩ | ⟨hlt, hb, h34, k, u, m, hw, hm, hml, hk, hk2, h1⟩ | ⟨hlt, h1⟩
    · rw [h1] at h
      cases h
      obtain rfl := List.mem_singleton.1 ht
      exact TokF.other (k := 0) (by decide) (by decide) (by decide)
    · rw [h1] at h; exact ih (p + 1) ts (by omega) (by omega) h t ht
    · rw [h1] at h; exact ih (p + j + 2) ts (by omega) (by omega) h t ht
    · rw [h1] at h
      cases hl : lexR rd (p + m) (ss.drop (p + m)) with
      | error z => rw [hl] at h; cases h
      | ok l =>
        rw [hl] at h
        cases h
        rcases List.mem_cons.1 ht with rfl | ht
        · exact word_tok hw
        · exact ih (p + m) l (by omega) (by omega) hl t ht
    · rw [h1] at h; cases h
theorem toks_of {rd : List Int → Bool} {ss : List Int} {W : List Tk} (h : lexR rd 0 ss = .ok W) (hl : ss.length ≤ 4096) (hb : ∀ x ∈ ss, 0 ≤ x ∧ x < 256) : Toks W := by
  have hF : ∀ i, TokF (kdW W i) (txW W i) := fun i => by
    rcases getD_or W i endT with hh | hh
    · exact toksF rd ss ss.length 0 W (by omega) (Nat.zero_le _) h _ hh
    · show TokF (W.getD i endT).kind (W.getD i endT).text
      rw [hh]
      exact .other (by decide) (by decide) (by decide)
  exact ⟨(src_of h hl hb).2.1, fun i => (hF i).1, fun i => (hF i).2.1, fun i => (hF i).2.2⟩
end Go.Proofs.YtncfmhlikmibaaaGreatDoor
namespace Go.Proofs.YtncfmhlikmibaaaGreatDoor
set_option maxHeartbeats 2000000 in
theorem run_errc {W : List Tk} (f : Nat) : ∀ a j c, runW W f a = some (.er j c) → c = 20 ∨ c = 3 := by
  induction f with
  | zero => intro a j c e; cases e
  | succ f ih =>
    intro a j c e
    have e : stepW W (runW W f) a = some (.er j c) := e
    cases a
    all_goals simp only [stepW, litW] at e
    all_goals repeat' first
      | exact ih _ _ _ e
      | (obtain ⟨x, hx, e'⟩ := bindE e; clear e; rcases rsE e' with ⟨j', c', rfl, hr⟩ | ⟨y, j', rfl, e⟩ <;> clear e' <;> (try (cases hr; exact ih _ _ _ hx)))
      | (split at e)
      | (cases e; done)
      | (cases e; first | exact .inl rfl | exact .inr rfl)
theorem Reads.errc {W : List Tk} {a : Qy} {j : Nat} {c : Int} (h : Reads W a (.er j c)) : c = 20 ∨ c = 3 := by
  obtain ⟨f, hf⟩ := h
  exact run_errc f a j c hf
theorem Reads.shp {W : List Tk} (T : Toks W) {a : Qy} {r : Rs} (h : Reads W a r) (hp : PreS a) : ShpR a r := by
  obtain ⟨f, hf⟩ := h
  exact run_shp T f a r hf hp
theorem u0_shp : Shp u0N := .leaf (fun _ h => absurd h List.not_mem_nil) (by decide) (by decide) (by decide) (by decide)
theorem u0_any : Any4 u0N := any4_mk 12 (by decide)
theorem body_shape {W : List Tk} (T : Toks W) {j : Nat} {x n : Nd} {pl : Nat} {er : Int} (hx : Shp x) (ha : Any4 x) (h : BodyR W j x n pl er) : er ≠ 0 ∨ (er = 0 ∧ Shp n ∧ n.kind = x.kind ∧ n.text = x.text ∧ n.n = x.n) := by
  obtain ⟨r, h1, h2⟩ := h
  cases r with
  | er k c =>
    obtain ⟨_, _, rfl⟩ := h2
    left
    rcases h1.errc with h | h <;> (rw [h]; decide)
  | ok y k =>
    have h2 : if kdW W k = 0 then n = y ∧ pl = 0 ∧ er = 0 else n = zNd ∧ pl = psW W k ∧ er = 20 := h2
    split at h2
    · obtain ⟨rfl, _, rfl⟩ := h2
      obtain ⟨s1, s2, s3, s4⟩ := h1.shp T ⟨hx, ha⟩
      exact .inr ⟨rfl, s1, s2, s3, s4⟩
    · obtain ⟨_, _, rfl⟩ := h2
      exact .inl (by decide)
theorem shape_of {ss : List Int} {m : Bool} {n : Nd} {pl : Nat} {er : Int} (hb : ∀ x ∈ ss, 0 ≤ x ∧ x < 256) (h : TreP ss m n pl er) : er ≠ 0 ∨ (er = 0 ∧ Shp n ∧ n.kind = 12 ∧ (m = false → n.text = []) ∧ (m = true → n.n = argsL n.text)) := by
  rcases h with ⟨h | h, _⟩ | ⟨W, hl, ho, hu⟩
  · obtain ⟨_, _, rfl⟩ := h; exact .inl (by decide)
  · obtain ⟨_, _, rfl⟩ := h; exact .inl (by decide)
  · have T := toks_of ho hl hb
    unfold UnitR at hu
    cases m with
    | false =>
      rw [if_neg (by decide)] at hu
      rcases body_shape T u0_shp u0_any hu with h | ⟨h1, h2, h3, h4, h5⟩
      · exact .inl h
      · exact .inr ⟨h1, h2, h3, (fun _ => h4), (fun h => by cases h)⟩
    | true =>
      rw [if_pos rfl] at hu
      obtain ⟨r, h1, h2⟩ := hu
      cases r with
      | er j c =>
        obtain ⟨_, _, rfl⟩ := h2
        left
        rcases h1.errc with h | h <;> (rw [h]; decide)
      | ok x j =>
        obtain ⟨s1, s2, s3⟩ := h1.shp T ⟨u0_shp, u0_any, rfl, rfl⟩
        rcases body_shape T s1 (any4_of u0_any s2) h2 with h | ⟨h1, h2, h3, h4, h5⟩
        · exact .inl h
        · exact .inr ⟨h1, h2, h3.trans s2, (fun h => by cases h), (fun _ => by rw [h5, h4, s3])⟩
end Go.Proofs.YtncfmhlikmibaaaGreatDoor
namespace Go.Proofs.YtncfmhlikmibaaaGreatDoor
open Go.RowKit
set_option maxRecDepth 100000
/-- What the operations yield. -/
def snd7V (b0 n kc : Nat) (tx : List Int) (ka : Option Addr) (j : Nat) : Value :=
  ([.pointer (some ⟨b0, 0, none⟩),
    .int .i64 7,
    .bool true,
    .bool true,
    .pointer (some ⟨b0, 1, none⟩),
    .string (strOfNums tx),
    .int .i64 (argsL tx : Int),
    .pointer (some ⟨b0, 5, none⟩),
    .slice ka n kc,
    .int .i64 (n : Int),
    .int .i64 ((n : Int) - 1),
    .bool false,
    .bool false,
    .bool false,
    .pointer (some ⟨b0, 0, none⟩),
    .int .i64 7,
    .bool false,
    .bool false,
    undef,
    undef,
    undef,
    undef,
    undef,
    undef,
    undef,
    .bool false,
    .bool false] : List Value).getD j undef
theorem snd7V_list {l : List Value} (hh : l.length = 27) : ∃ v0 v1 v2 v3 v4 v5 v6 v7 v8 v9 v10 v11 v12 v13 v14 v15 v16 v17 v18 v19 v20 v21 v22 v23 v24 v25 v26, l = [v0, v1, v2, v3, v4, v5, v6, v7, v8, v9, v10, v11, v12, v13, v14, v15, v16, v17, v18, v19, v20, v21, v22, v23, v24, v25, v26] := by
  obtain ⟨v0, t0, rfl, h0⟩ := cons_of hh
  obtain ⟨v1, t1, rfl, h1⟩ := cons_of h0
  obtain ⟨v2, t2, rfl, h2⟩ := cons_of h1
  obtain ⟨v3, t3, rfl, h3⟩ := cons_of h2
  obtain ⟨v4, t4, rfl, h4⟩ := cons_of h3
  obtain ⟨v5, t5, rfl, h5⟩ := cons_of h4
  obtain ⟨v6, t6, rfl, h6⟩ := cons_of h5
  obtain ⟨v7, t7, rfl, h7⟩ := cons_of h6
  obtain ⟨v8, t8, rfl, h8⟩ := cons_of h7
  obtain ⟨v9, t9, rfl, h9⟩ := cons_of h8
  obtain ⟨v10, t10, rfl, h10⟩ := cons_of h9
  obtain ⟨v11, t11, rfl, h11⟩ := cons_of h10
  obtain ⟨v12, t12, rfl, h12⟩ := cons_of h11
  obtain ⟨v13, t13, rfl, h13⟩ := cons_of h12
  obtain ⟨v14, t14, rfl, h14⟩ := cons_of h13
  obtain ⟨v15, t15, rfl, h15⟩ := cons_of h14
  obtain ⟨v16, t16, rfl, h16⟩ := cons_of h15
  obtain ⟨v17, t17, rfl, h17⟩ := cons_of h16
  obtain ⟨v18, t18, rfl, h18⟩ := cons_of h17
  obtain ⟨v19, t19, rfl, h19⟩ := cons_of h18
  obtain ⟨v20, t20, rfl, h20⟩ := cons_of h19
  obtain ⟨v21, t21, rfl, h21⟩ := cons_of h20
  obtain ⟨v22, t22, rfl, h22⟩ := cons_of h21
  obtain ⟨v23, t23, rfl, h23⟩ := cons_of h22
  obtain ⟨v24, t24, rfl, h24⟩ := cons_of h23
  obtain ⟨v25, t25, rfl, h25⟩ := cons_of h24
  obtain ⟨v26, t26, rfl, h26⟩ := cons_of h25
  obtain rfl := List.eq_nil_of_length_eq_zero h26
  exact ⟨_, _, _, _, _, _, _, _, _, _, _, _, _, _, _, _, _, _, _, _, _, _, _, _, _, _, _, rfl⟩
/-- What the operations yield. -/
def snd9V (b0 n kc : Nat) (tx : List Int) (ka : Option Addr) (j : Nat) : Value :=
  ([.pointer (some ⟨b0, 0, none⟩),
    .int .i64 9,
    .bool false,
    .bool false,
    undef,
    undef,
    undef,
    undef,
    undef,
    undef,
    undef,
    undef,
    .bool false,
    .bool false,
    .pointer (some ⟨b0, 0, none⟩),
    .int .i64 9,
    .bool true,
    .bool true,
    .pointer (some ⟨b0, 1, none⟩),
    .string (strOfNums tx),
    .int .i64 (argsL tx : Int),
    .pointer (some ⟨b0, 5, none⟩),
    .slice ka n kc,
    .int .i64 (n : Int),
    .bool false,
    .bool false,
    .bool false] : List Value).getD j undef
theorem snd9V_list {l : List Value} (hh : l.length = 27) : ∃ v0 v1 v2 v3 v4 v5 v6 v7 v8 v9 v10 v11 v12 v13 v14 v15 v16 v17 v18 v19 v20 v21 v22 v23 v24 v25 v26, l = [v0, v1, v2, v3, v4, v5, v6, v7, v8, v9, v10, v11, v12, v13, v14, v15, v16, v17, v18, v19, v20, v21, v22, v23, v24, v25, v26] := by
  obtain ⟨v0, t0, rfl, h0⟩ := cons_of hh
  obtain ⟨v1, t1, rfl, h1⟩ := cons_of h0
  obtain ⟨v2, t2, rfl, h2⟩ := cons_of h1
  obtain ⟨v3, t3, rfl, h3⟩ := cons_of h2
  obtain ⟨v4, t4, rfl, h4⟩ := cons_of h3
  obtain ⟨v5, t5, rfl, h5⟩ := cons_of h4
  obtain ⟨v6, t6, rfl, h6⟩ := cons_of h5
  obtain ⟨v7, t7, rfl, h7⟩ := cons_of h6
  obtain ⟨v8, t8, rfl, h8⟩ := cons_of h7
  obtain ⟨v9, t9, rfl, h9⟩ := cons_of h8
  obtain ⟨v10, t10, rfl, h10⟩ := cons_of h9
  obtain ⟨v11, t11, rfl, h11⟩ := cons_of h10
  obtain ⟨v12, t12, rfl, h12⟩ := cons_of h11
  obtain ⟨v13, t13, rfl, h13⟩ := cons_of h12
  obtain ⟨v14, t14, rfl, h14⟩ := cons_of h13
  obtain ⟨v15, t15, rfl, h15⟩ := cons_of h14
  obtain ⟨v16, t16, rfl, h16⟩ := cons_of h15
  obtain ⟨v17, t17, rfl, h17⟩ := cons_of h16
  obtain ⟨v18, t18, rfl, h18⟩ := cons_of h17
  obtain ⟨v19, t19, rfl, h19⟩ := cons_of h18
  obtain ⟨v20, t20, rfl, h20⟩ := cons_of h19
  obtain ⟨v21, t21, rfl, h21⟩ := cons_of h20
  obtain ⟨v22, t22, rfl, h22⟩ := cons_of h21
  obtain ⟨v23, t23, rfl, h23⟩ := cons_of h22
  obtain ⟨v24, t24, rfl, h24⟩ := cons_of h23
  obtain ⟨v25, t25, rfl, h25⟩ := cons_of h24
  obtain ⟨v26, t26, rfl, h26⟩ := cons_of h25
  obtain rfl := List.eq_nil_of_length_eq_zero h26
  exact ⟨_, _, _, _, _, _, _, _, _, _, _, _, _, _, _, _, _, _, _, _, _, _, _, _, _, _, _, rfl⟩
/-- What the operations yield. -/
def sndoV (b0 : Nat) (k : Int) (j : Nat) : Value :=
  ([.pointer (some ⟨b0, 0, none⟩),
    .int .i64 k,
    .bool false,
    .bool false,
    undef,
    undef,
    undef,
    undef,
    undef,
    undef,
    undef,
    undef,
    .bool false,
    .bool false,
    .pointer (some ⟨b0, 0, none⟩),
    .int .i64 k,
    .bool false,
    .bool false,
    undef,
    undef,
    undef,
    undef,
    undef,
    undef,
    undef,
    .bool false,
    .bool false] : List Value).getD j undef
theorem sndoV_list {l : List Value} (hh : l.length = 27) : ∃ v0 v1 v2 v3 v4 v5 v6 v7 v8 v9 v10 v11 v12 v13 v14 v15 v16 v17 v18 v19 v20 v21 v22 v23 v24 v25 v26, l = [v0, v1, v2, v3, v4, v5, v6, v7, v8, v9, v10, v11, v12, v13, v14, v15, v16, v17, v18, v19, v20, v21, v22, v23, v24, v25, v26] := by
  obtain ⟨v0, t0, rfl, h0⟩ := cons_of hh
  obtain ⟨v1, t1, rfl, h1⟩ := cons_of h0
  obtain ⟨v2, t2, rfl, h2⟩ := cons_of h1
  obtain ⟨v3, t3, rfl, h3⟩ := cons_of h2
  obtain ⟨v4, t4, rfl, h4⟩ := cons_of h3
  obtain ⟨v5, t5, rfl, h5⟩ := cons_of h4
  obtain ⟨v6, t6, rfl, h6⟩ := cons_of h5
  obtain ⟨v7, t7, rfl, h7⟩ := cons_of h6
  obtain ⟨v8, t8, rfl, h8⟩ := cons_of h7
  obtain ⟨v9, t9, rfl, h9⟩ := cons_of h8
  obtain ⟨v10, t10, rfl, h10⟩ := cons_of h9
  obtain ⟨v11, t11, rfl, h11⟩ := cons_of h10
  obtain ⟨v12, t12, rfl, h12⟩ := cons_of h11
  obtain ⟨v13, t13, rfl, h13⟩ := cons_of h12
  obtain ⟨v14, t14, rfl, h14⟩ := cons_of h13
  obtain ⟨v15, t15, rfl, h15⟩ := cons_of h14
  obtain ⟨v16, t16, rfl, h16⟩ := cons_of h15
  obtain ⟨v17, t17, rfl, h17⟩ := cons_of h16
  obtain ⟨v18, t18, rfl, h18⟩ := cons_of h17
  obtain ⟨v19, t19, rfl, h19⟩ := cons_of h18
  obtain ⟨v20, t20, rfl, h20⟩ := cons_of h19
  obtain ⟨v21, t21, rfl, h21⟩ := cons_of h20
  obtain ⟨v22, t22, rfl, h22⟩ := cons_of h21
  obtain ⟨v23, t23, rfl, h23⟩ := cons_of h22
  obtain ⟨v24, t24, rfl, h24⟩ := cons_of h23
  obtain ⟨v25, t25, rfl, h25⟩ := cons_of h24
  obtain ⟨v26, t26, rfl, h26⟩ := cons_of h25
  obtain rfl := List.eq_nil_of_length_eq_zero h26
  exact ⟨_, _, _, _, _, _, _, _, _, _, _, _, _, _, _, _, _, _, _, _, _, _, _, _, _, _, _, rfl⟩
/-- The law's own function answers true. -/
def SendsC (x : Nd) : Prop := ∀ (A : Nat → Prop) (w : World) (v : Value), NdV A w x v → Calls Tryz.prog 17 #[v] w fun e w' => e = .returned (.bool true) ∧ Below w.heap.size w w'
set_option maxHeartbeats 8000000 in
theorem sends_step {x : Nd} (hs : Shp x) (H : ∀ y ∈ x.kids, SendsC y) : SendsC x := by
  intro A w v hN
  obtain ⟨na, nc, ka, kc, fl, hv, sn, sl, kf, hl1, hl2, hl3⟩ := hN.parts
  have h7 := hs.seven
  have h9 := hs.nine
  have h1 := hs.one
  have hnn := hs.args
  have hbt := hs.byt
  have hkf := kf.len
  have hargs := fun w => args_is x.text w hbt (by omega)
  have hkid : ∀ i, i < x.kids.length → ∃ y b off v0 v1 v2 v3 v4 v5, ka = some ⟨b, off, none⟩ ∧ b < w.heap.size ∧ SendsC y ∧ NdV A w y (.agg #[v0, v1, v2, v3, v4, v5]) ∧ w.cell? ⟨b, off + i * 6, none⟩ = some v0 ∧ w.cell? ⟨b, off + i * 6 + 1, none⟩ = some v1 ∧ w.cell? ⟨b, off + i * 6 + 2, none⟩ = some v2 ∧ w.cell? ⟨b, off + i * 6 + 3, none⟩ = some v3 ∧ w.cell? ⟨b, off + i * 6 + 4, none⟩ = some v4 ∧ w.cell? ⟨b, off + i * 6 + 5, none⟩ = some v5 := by
    intro i hi
    obtain ⟨b, off, rfl, hA, hc⟩ := sl.cells (by omega)
    obtain ⟨v0, v1, v2, v3, v4, v5, hNy, e0, e1, e2, e3, e4, e5⟩ := kf.at_ i x.kids[i] (List.getElem?_eq_getElem hi)
    have c0 := hc _ _ e0
    refine ⟨x.kids[i], b, off, v0, v1, v2, v3, v4, v5, rfl, block_lt_of_cell c0, H _ (List.getElem_mem hi), hNy, c0, ?_, ?_, ?_, ?_, ?_⟩
    · have := hc _ _ e1; rwa [← Nat.add_assoc] at this
    · have := hc _ _ e2; rwa [← Nat.add_assoc] at this
    · have := hc _ _ e3; rwa [← Nat.add_assoc] at this
    · have := hc _ _ e4; rwa [← Nat.add_assoc] at this
    · have := hc _ _ e5; rwa [← Nat.add_assoc] at this
  have hrm := sl.room
  clear hN sn sl kf hs H hkf
  generalize x.kind = k at *
  generalize x.text = tx at *
  generalize x.kids.length = n at *
  generalize x.names.length = m at *
  generalize x.pos = p at *
  generalize x.n = q at *
  subst hv
  go_enter Tryz.func17, Tryz.ntmps17
  go_upto_region 1 with fail
  have E1 := newO w (.cells #[.int .i64 k, .string (strOfNums tx), .int .i64 (p : Int), .int .i64 (q : Int), .slice na m nc, .slice ka n kc] 25)
  have B1 : Below w.heap.size w (w.alloc (.cells #[.int .i64 k, .string (strOfNums tx), .int .i64 (p : Int), .int .i64 (q : Int), .slice na m nc, .slice ka n kc] 25)) := boxO
  generalize w.alloc (.cells #[.int .i64 k, .string (strOfNums tx), .int .i64 (p : Int), .int .i64 (q : Int), .slice na m nc, .slice ka n kc] 25) = w1 at *
  generalize hb0 : w.heap.size = b0 at *
  have box : ∀ w', Below w1.heap.size w1 w' → w'.heap[b0]? = _ := fun w' B => (B.block b0 (lt_of_block E1)).trans E1
  have hs1 := B1.size
  clear E1
  go_cut [30] from 4 to 30 (fun v wx => v = .bool false ∧ Below w1.heap.size w1 wx)
  case first =>
    by_cases hk7 : k = 7
    · subst hk7
      have hav := h7 rfl
      have hsub : IntKind.i64.wrap ((n : Int) - 1) = (n : Int) - 1 := by rw [IntKind.wrap_i64]; omega
      have hne : ((argsL tx : Int) != (n : Int) - 1) = false := by rw [bne_eq_false_iff_eq]; omega
      refine abstract_act fun A hA => ?_
      have hsz : A.tmps.size = 78 := by rw [hA]; rfl
      have s1 : A.tmps[1]? = some (.pointer (some ⟨b0, 0, none⟩)) := by rw [hA]; rfl
      refine wp_region_inv3' (fun A D a w' => ∃ (l : List Value), a = putAll A 4 l ∧ l.length = 27 ∧ (∀ j, j < 27 → D j → l[j]? = some (snd7V b0 n kc tx ka j)) ∧ (D 6 ∨ (Below w1.heap.size w1 w')) ∧ (D 6 → (Below w1.heap.size w1 w'))) (by kernel_rfl) (by kernel_rfl) ?mono ?start ?step ?done
      case mono =>
        rintro D D' a w' hD ⟨l, ha, hlen, hl, hN, hL⟩
        exact ⟨l, ha, hlen, fun j hj h => hl j hj ((hD j).2 h), hN.imp_left (hD 6).1, fun h => hL ((hD 6).2 h)⟩
      case start => exact ⟨_, (putAll_start A 4 27 (by omega)).1, (putAll_start A 4 27 (by omega)).2, fun _ _ h => h.elim, .inr ((Below.refl _ w1).drew), fun h => h.elim⟩
      case step =>
        clear hA
        intro i o ho D a w' hI hn hcl hd
        obtain ⟨l, ha, hlen, hl, hN, hL⟩ := hI
        match i, ho with
        | 0, ho =>
          cases Option.some.inj ho
          refine .inl ⟨rfl, ?_⟩
          have ev : a.tmps[1]? = some (.pointer (some ⟨b0, 0, none⟩)) := by rw [ha, putAll_low A 4 1 l (by omega) (by decide)]; exact s1
          refine wp_value (w' := w') (v := .pointer (some ⟨b0, 0, none⟩)) (by simp [execOp, ev, go_sem]) ?_
          exact ⟨_, by rw [ha]; exact putAll_put A 4 0 l _ (by omega) (by omega), by rw [List.length_set]; exact hlen, set_known hlen (by decide) hl, hN.imp_left .inr, fun h => hL (h.resolve_left (by decide))⟩
        | 1, ho =>
          cases Option.some.inj ho
          refine .inl ⟨rfl, ?_⟩
          have ev : a.tmps[4]? = some (.pointer (some ⟨b0, 0, none⟩)) := known_at ha hsz hlen hl 0 (by decide) (hd ⟨0, .data⟩ (by simp) rfl)
          have hB : Below w1.heap.size w1 w' := hN.elim hL id
          obtain ⟨z0, z1, z2, z3, z4, z5, _⟩ := nd_cells (box w' hB)
          refine wp_value (w' := w') (v := .int .i64 7) (by simp [execOp, ev, go_sem, z0]) ?_
          exact ⟨_, by rw [ha]; exact putAll_put A 4 1 l _ (by omega) (by omega), by rw [List.length_set]; exact hlen, set_known hlen (by decide) hl, hN.imp_left .inr, fun h => hL (h.resolve_left (by decide))⟩
        | 2, ho =>
          cases Option.some.inj ho
          refine .inl ⟨rfl, ?_⟩
          have ev : a.tmps[5]? = some (.int .i64 7) := known_at ha hsz hlen hl 1 (by decide) (hd ⟨1, .data⟩ (by simp) rfl)
          refine wp_value (w' := w') (v := .bool true) (by simp [execOp, ev, go_sem]) ?_
          exact ⟨_, by rw [ha]; exact putAll_put A 4 2 l _ (by omega) (by omega), by rw [List.length_set]; exact hlen, set_known hlen (by decide) hl, hN.imp_left .inr, fun h => hL (h.resolve_left (by decide))⟩
        | 3, ho =>
          cases Option.some.inj ho
          refine .inl ⟨rfl, ?_⟩
          have ev : a.tmps[6]? = some (.bool true) := known_at ha hsz hlen hl 2 (by decide) (hd ⟨2, .data⟩ (by simp) rfl)
          refine wp_value (w' := w') (v := .bool true) (by simp [execOp, ev, go_sem]) ?_
          exact ⟨_, by rw [ha]; exact putAll_put A 4 3 l _ (by omega) (by omega), by rw [List.length_set]; exact hlen, set_known hlen (by decide) hl, hN.imp_left .inr, fun h => hL (h.resolve_left (by decide))⟩
        | 4, ho =>
          cases Option.some.inj ho
          refine .inl ⟨wanted_of (k := 7) rfl rfl rfl (known_at ha hsz hlen hl 3 (by decide) (hd ⟨3, .guard⟩ (by simp) rfl)), ?_⟩
          have ev : a.tmps[1]? = some (.pointer (some ⟨b0, 0, none⟩)) := by rw [ha, putAll_low A 4 1 l (by omega) (by decide)]; exact s1
          refine wp_value (w' := w') (v := .pointer (some ⟨b0, 1, none⟩)) (by simp [execOp, ev, go_sem]) ?_
          exact ⟨_, by rw [ha]; exact putAll_put A 4 4 l _ (by omega) (by omega), by rw [List.length_set]; exact hlen, set_known hlen (by decide) hl, hN.imp_left .inr, fun h => hL (h.resolve_left (by decide))⟩
        | 5, ho =>
          cases Option.some.inj ho
          refine .inl ⟨wanted_of (k := 7) rfl rfl rfl (known_at ha hsz hlen hl 3 (by decide) (hd ⟨3, .guard⟩ (by simp) rfl)), ?_⟩
          have ev : a.tmps[8]? = some (.pointer (some ⟨b0, 1, none⟩)) := known_at ha hsz hlen hl 4 (by decide) (hd ⟨4, .data⟩ (by simp) rfl)
          have hB : Below w1.heap.size w1 w' := hN.elim hL id
          obtain ⟨z0, z1, z2, z3, z4, z5, _⟩ := nd_cells (box w' hB)
          refine wp_value (w' := w') (v := .string (strOfNums tx)) (by simp [execOp, ev, go_sem, z1]) ?_
          exact ⟨_, by rw [ha]; exact putAll_put A 4 5 l _ (by omega) (by omega), by rw [List.length_set]; exact hlen, set_known hlen (by decide) hl, hN.imp_left .inr, fun h => hL (h.resolve_left (by decide))⟩
        | 6, ho =>
          cases Option.some.inj ho
          refine .inl ⟨wanted_of (k := 7) rfl rfl rfl (known_at ha hsz hlen hl 3 (by decide) (hd ⟨3, .guard⟩ (by simp) rfl)), ?_⟩
          have ev : a.tmps[9]? = some (.string (strOfNums tx)) := known_at ha hsz hlen hl 5 (by decide) (hd ⟨5, .data⟩ (by simp) rfl)
          have hN6 := hN.resolve_left hn
          refine wp_enter (f := 15) (args := #[.string (strOfNums tx)]) (by simp [execOp, ev, go_sem]) ?_
          refine (hargs w').mono ?_
          rintro e w6 ⟨rfl, B9⟩
          refine ⟨_, rfl, ?_⟩
          exact ⟨_, by rw [ha]; exact putAll_put A 4 6 l _ (by omega) (by omega), by rw [List.length_set]; exact hlen, set_known hlen (by decide) hl, .inl (.inl rfl), fun _ => hN6.trans (B9.mono hN6.size)⟩
        | 7, ho =>
          cases Option.some.inj ho
          refine .inl ⟨wanted_of (k := 7) rfl rfl rfl (known_at ha hsz hlen hl 3 (by decide) (hd ⟨3, .guard⟩ (by simp) rfl)), ?_⟩
          have ev : a.tmps[1]? = some (.pointer (some ⟨b0, 0, none⟩)) := by rw [ha, putAll_low A 4 1 l (by omega) (by decide)]; exact s1
          refine wp_value (w' := w') (v := .pointer (some ⟨b0, 5, none⟩)) (by simp [execOp, ev, go_sem]) ?_
          exact ⟨_, by rw [ha]; exact putAll_put A 4 7 l _ (by omega) (by omega), by rw [List.length_set]; exact hlen, set_known hlen (by decide) hl, hN.imp_left .inr, fun h => hL (h.resolve_left (by decide))⟩
        | 8, ho =>
          cases Option.some.inj ho
          refine .inl ⟨wanted_of (k := 7) rfl rfl rfl (known_at ha hsz hlen hl 3 (by decide) (hd ⟨3, .guard⟩ (by simp) rfl)), ?_⟩
          have ev : a.tmps[11]? = some (.pointer (some ⟨b0, 5, none⟩)) := known_at ha hsz hlen hl 7 (by decide) (hd ⟨7, .data⟩ (by simp) rfl)
          have hB : Below w1.heap.size w1 w' := hN.elim hL id
          obtain ⟨z0, z1, z2, z3, z4, z5, _⟩ := nd_cells (box w' hB)
          refine wp_value (w' := w') (v := .slice ka n kc) (by simp [execOp, ev, go_sem, z5]) ?_
          exact ⟨_, by rw [ha]; exact putAll_put A 4 8 l _ (by omega) (by omega), by rw [List.length_set]; exact hlen, set_known hlen (by decide) hl, hN.imp_left .inr, fun h => hL (h.resolve_left (by decide))⟩
        | 9, ho =>
          cases Option.some.inj ho
          refine .inl ⟨wanted_of (k := 7) rfl rfl rfl (known_at ha hsz hlen hl 3 (by decide) (hd ⟨3, .guard⟩ (by simp) rfl)), ?_⟩
          have ev : a.tmps[12]? = some (.slice ka n kc) := known_at ha hsz hlen hl 8 (by decide) (hd ⟨8, .data⟩ (by simp) rfl)
          refine wp_value (w' := w') (v := .int .i64 (n : Int)) (by simp [execOp, ev, go_sem]) ?_
          exact ⟨_, by rw [ha]; exact putAll_put A 4 9 l _ (by omega) (by omega), by rw [List.length_set]; exact hlen, set_known hlen (by decide) hl, hN.imp_left .inr, fun h => hL (h.resolve_left (by decide))⟩
        | 10, ho =>
          cases Option.some.inj ho
          refine .inl ⟨wanted_of (k := 7) rfl rfl rfl (known_at ha hsz hlen hl 3 (by decide) (hd ⟨3, .guard⟩ (by simp) rfl)), ?_⟩
          have ev : a.tmps[13]? = some (.int .i64 (n : Int)) := known_at ha hsz hlen hl 9 (by decide) (hd ⟨9, .data⟩ (by simp) rfl)
          refine wp_value (w' := w') (v := .int .i64 ((n : Int) - 1)) (by simp [execOp, ev, go_sem, hsub]) ?_
          exact ⟨_, by rw [ha]; exact putAll_put A 4 10 l _ (by omega) (by omega), by rw [List.length_set]; exact hlen, set_known hlen (by decide) hl, hN.imp_left .inr, fun h => hL (h.resolve_left (by decide))⟩
        | 11, ho =>
          cases Option.some.inj ho
          refine .inl ⟨wanted_of (k := 7) rfl rfl rfl (known_at ha hsz hlen hl 3 (by decide) (hd ⟨3, .guard⟩ (by simp) rfl)), ?_⟩
          have ev : a.tmps[10]? = some (.int .i64 (argsL tx : Int)) := known_at ha hsz hlen hl 6 (by decide) (hd ⟨6, .data⟩ (by simp) rfl)
          have ev' : a.tmps[14]? = some (.int .i64 ((n : Int) - 1)) := known_at ha hsz hlen hl 10 (by decide) (hd ⟨10, .data⟩ (by simp) rfl)
          refine wp_value (w' := w') (v := .bool false) (by simp [execOp, ev, ev', go_sem, hne]) ?_
          exact ⟨_, by rw [ha]; exact putAll_put A 4 11 l _ (by omega) (by omega), by rw [List.length_set]; exact hlen, set_known hlen (by decide) hl, hN.imp_left .inr, fun h => hL (h.resolve_left (by decide))⟩
        | 12, ho =>
          cases Option.some.inj ho
          refine .inl ⟨rfl, ?_⟩
          have ev : a.tmps[7]? = some (.bool true) := known_at ha hsz hlen hl 3 (by decide) (hd ⟨3, .data⟩ (by simp) rfl)
          have ev' : a.tmps[15]? = some (.bool false) := known_at ha hsz hlen hl 11 (by decide) (hd ⟨11, .data⟩ (by simp) rfl)
          refine wp_value (w' := w') (v := .bool false) (by simp [execOp, ev, ev', go_sem]) ?_
          exact ⟨_, by rw [ha]; exact putAll_put A 4 12 l _ (by omega) (by omega), by rw [List.length_set]; exact hlen, set_known hlen (by decide) hl, hN.imp_left .inr, fun h => hL (h.resolve_left (by decide))⟩
        | 13, ho =>
          cases Option.some.inj ho
          refine .inl ⟨rfl, ?_⟩
          have ev : a.tmps[16]? = some (.bool false) := known_at ha hsz hlen hl 12 (by decide) (hd ⟨12, .data⟩ (by simp) rfl)
          refine wp_value (w' := w') (v := .bool false) (by simp [execOp, ev, go_sem]) ?_
          exact ⟨_, by rw [ha]; exact putAll_put A 4 13 l _ (by omega) (by omega), by rw [List.length_set]; exact hlen, set_known hlen (by decide) hl, hN.imp_left .inr, fun h => hL (h.resolve_left (by decide))⟩
        | 14, ho =>
          cases Option.some.inj ho
          refine .inl ⟨wanted_of (k := 17) rfl rfl rfl (known_at ha hsz hlen hl 13 (by decide) (hd ⟨13, .guard⟩ (by simp) rfl)), ?_⟩
          have ev : a.tmps[1]? = some (.pointer (some ⟨b0, 0, none⟩)) := by rw [ha, putAll_low A 4 1 l (by omega) (by decide)]; exact s1
          refine wp_value (w' := w') (v := .pointer (some ⟨b0, 0, none⟩)) (by simp [execOp, ev, go_sem]) ?_
          exact ⟨_, by rw [ha]; exact putAll_put A 4 14 l _ (by omega) (by omega), by rw [List.length_set]; exact hlen, set_known hlen (by decide) hl, hN.imp_left .inr, fun h => hL (h.resolve_left (by decide))⟩
        | 15, ho =>
          cases Option.some.inj ho
          refine .inl ⟨wanted_of (k := 17) rfl rfl rfl (known_at ha hsz hlen hl 13 (by decide) (hd ⟨13, .guard⟩ (by simp) rfl)), ?_⟩
          have ev : a.tmps[18]? = some (.pointer (some ⟨b0, 0, none⟩)) := known_at ha hsz hlen hl 14 (by decide) (hd ⟨14, .data⟩ (by simp) rfl)
          have hB : Below w1.heap.size w1 w' := hN.elim hL id
          obtain ⟨z0, z1, z2, z3, z4, z5, _⟩ := nd_cells (box w' hB)
          refine wp_value (w' := w') (v := .int .i64 7) (by simp [execOp, ev, go_sem, z0]) ?_
          exact ⟨_, by rw [ha]; exact putAll_put A 4 15 l _ (by omega) (by omega), by rw [List.length_set]; exact hlen, set_known hlen (by decide) hl, hN.imp_left .inr, fun h => hL (h.resolve_left (by decide))⟩
        | 16, ho =>
          cases Option.some.inj ho
          refine .inl ⟨wanted_of (k := 17) rfl rfl rfl (known_at ha hsz hlen hl 13 (by decide) (hd ⟨13, .guard⟩ (by simp) rfl)), ?_⟩
          have ev : a.tmps[19]? = some (.int .i64 7) := known_at ha hsz hlen hl 15 (by decide) (hd ⟨15, .data⟩ (by simp) rfl)
          refine wp_value (w' := w') (v := .bool false) (by simp [execOp, ev, go_sem]) ?_
          exact ⟨_, by rw [ha]; exact putAll_put A 4 16 l _ (by omega) (by omega), by rw [List.length_set]; exact hlen, set_known hlen (by decide) hl, hN.imp_left .inr, fun h => hL (h.resolve_left (by decide))⟩
        | 17, ho =>
          cases Option.some.inj ho
          refine .inl ⟨wanted_of (k := 17) rfl rfl rfl (known_at ha hsz hlen hl 13 (by decide) (hd ⟨13, .guard⟩ (by simp) rfl)), ?_⟩
          have ev : a.tmps[20]? = some (.bool false) := known_at ha hsz hlen hl 16 (by decide) (hd ⟨16, .data⟩ (by simp) rfl)
          refine wp_value (w' := w') (v := .bool false) (by simp [execOp, ev, go_sem]) ?_
          exact ⟨_, by rw [ha]; exact putAll_put A 4 17 l _ (by omega) (by omega), by rw [List.length_set]; exact hlen, set_known hlen (by decide) hl, hN.imp_left .inr, fun h => hL (h.resolve_left (by decide))⟩
        | 18, ho =>
          cases Option.some.inj ho
          refine .inr ⟨wanted_not (k := 21) rfl rfl rfl (known_at ha hsz hlen hl 17 (by decide) (hd ⟨17, .guard⟩ (by simp) rfl)) (by simp [snd7V, undef]), ?_⟩
          exact ⟨_, by rw [ha]; exact putAll_put A 4 18 l _ (by omega) (by omega), by rw [List.length_set]; exact hlen, set_known hlen (by decide) hl, hN.imp_left .inr, fun h => hL (h.resolve_left (by decide))⟩
        | 19, ho =>
          cases Option.some.inj ho
          refine .inr ⟨wanted_not (k := 21) rfl rfl rfl (known_at ha hsz hlen hl 17 (by decide) (hd ⟨17, .guard⟩ (by simp) rfl)) (by simp [snd7V, undef]), ?_⟩
          exact ⟨_, by rw [ha]; exact putAll_put A 4 19 l _ (by omega) (by omega), by rw [List.length_set]; exact hlen, set_known hlen (by decide) hl, hN.imp_left .inr, fun h => hL (h.resolve_left (by decide))⟩
        | 20, ho =>
          cases Option.some.inj ho
          refine .inr ⟨wanted_not (k := 21) rfl rfl rfl (known_at ha hsz hlen hl 17 (by decide) (hd ⟨17, .guard⟩ (by simp) rfl)) (by simp [snd7V, undef]), ?_⟩
          exact ⟨_, by rw [ha]; exact putAll_put A 4 20 l _ (by omega) (by omega), by rw [List.length_set]; exact hlen, set_known hlen (by decide) hl, hN.imp_left .inr, fun h => hL (h.resolve_left (by decide))⟩
        | 21, ho =>
          cases Option.some.inj ho
          refine .inr ⟨wanted_not (k := 21) rfl rfl rfl (known_at ha hsz hlen hl 17 (by decide) (hd ⟨17, .guard⟩ (by simp) rfl)) (by simp [snd7V, undef]), ?_⟩
          exact ⟨_, by rw [ha]; exact putAll_put A 4 21 l _ (by omega) (by omega), by rw [List.length_set]; exact hlen, set_known hlen (by decide) hl, hN.imp_left .inr, fun h => hL (h.resolve_left (by decide))⟩
        | 22, ho =>
          cases Option.some.inj ho
          refine .inr ⟨wanted_not (k := 21) rfl rfl rfl (known_at ha hsz hlen hl 17 (by decide) (hd ⟨17, .guard⟩ (by simp) rfl)) (by simp [snd7V, undef]), ?_⟩
          exact ⟨_, by rw [ha]; exact putAll_put A 4 22 l _ (by omega) (by omega), by rw [List.length_set]; exact hlen, set_known hlen (by decide) hl, hN.imp_left .inr, fun h => hL (h.resolve_left (by decide))⟩
        | 23, ho =>
          cases Option.some.inj ho
          refine .inr ⟨wanted_not (k := 21) rfl rfl rfl (known_at ha hsz hlen hl 17 (by decide) (hd ⟨17, .guard⟩ (by simp) rfl)) (by simp [snd7V, undef]), ?_⟩
          exact ⟨_, by rw [ha]; exact putAll_put A 4 23 l _ (by omega) (by omega), by rw [List.length_set]; exact hlen, set_known hlen (by decide) hl, hN.imp_left .inr, fun h => hL (h.resolve_left (by decide))⟩
        | 24, ho =>
          cases Option.some.inj ho
          refine .inr ⟨wanted_not (k := 21) rfl rfl rfl (known_at ha hsz hlen hl 17 (by decide) (hd ⟨17, .guard⟩ (by simp) rfl)) (by simp [snd7V, undef]), ?_⟩
          exact ⟨_, by rw [ha]; exact putAll_put A 4 24 l _ (by omega) (by omega), by rw [List.length_set]; exact hlen, set_known hlen (by decide) hl, hN.imp_left .inr, fun h => hL (h.resolve_left (by decide))⟩
        | 25, ho =>
          cases Option.some.inj ho
          refine .inl ⟨wanted_of (k := 17) rfl rfl rfl (known_at ha hsz hlen hl 13 (by decide) (hd ⟨13, .guard⟩ (by simp) rfl)), ?_⟩
          have ev : a.tmps[21]? = some (.bool false) := known_at ha hsz hlen hl 17 (by decide) (hd ⟨17, .data⟩ (by simp) rfl)
          refine wp_value (w' := w') (v := .bool false) (by simp [execOp, ev, go_sem]) ?_
          exact ⟨_, by rw [ha]; exact putAll_put A 4 25 l _ (by omega) (by omega), by rw [List.length_set]; exact hlen, set_known hlen (by decide) hl, hN.imp_left .inr, fun h => hL (h.resolve_left (by decide))⟩
        | 26, ho =>
          cases Option.some.inj ho
          refine .inl ⟨rfl, ?_⟩
          have ev : a.tmps[17]? = some (.bool false) := known_at ha hsz hlen hl 13 (by decide) (hd ⟨13, .data⟩ (by simp) rfl)
          have ev' : a.tmps[29]? = some (.bool false) := known_at ha hsz hlen hl 25 (by decide) (hd ⟨25, .data⟩ (by simp) rfl)
          refine wp_value (w' := w') (v := .bool false) (by simp [execOp, ev, ev', go_sem]) ?_
          exact ⟨_, by rw [ha]; exact putAll_put A 4 26 l _ (by omega) (by omega), by rw [List.length_set]; exact hlen, set_known hlen (by decide) hl, hN.imp_left .inr, fun h => hL (h.resolve_left (by decide))⟩
        | i + 27, ho => simp at ho
      case done =>
        rintro D a w' ⟨l, ha, hlen, hl, hN, hL⟩ hall
        obtain ⟨v0, v1, v2, v3, v4, v5, v6, v7, v8, v9, v10, v11, v12, v13, v14, v15, v16, v17, v18, v19, v20, v21, v22, v23, v24, v25, v26, rfl⟩ := snd7V_list hlen
        have hB := hL (hall 6 (by decide))
        have hz := hl 26 (by decide) (hall 26 (by decide))
        simp only [List.getElem?_cons_succ, List.getElem?_cons_zero, Option.some.injEq] at hz
        have hz' : v26 = .bool false := hz
        subst hz'
        subst hA
        have hfr : a = _ := ha
        rw [hfr]
        clear hfr ha
        simp only [putAll, List.take_succ_cons, List.take_zero, List.drop_succ_cons, List.drop_zero, List.cons_append, List.nil_append, List.length_cons, List.length_nil]
        clear hl hN hL hall
        go_wp2
        go_meet
        exact ⟨rfl, hB⟩
    · by_cases hk9 : k = 9
      · subst hk9
        have hav := h9 rfl
        have hne : ((argsL tx : Int) != (n : Int)) = false := by rw [bne_eq_false_iff_eq]; omega
        refine abstract_act fun A hA => ?_
        have hsz : A.tmps.size = 78 := by rw [hA]; rfl
        have s1 : A.tmps[1]? = some (.pointer (some ⟨b0, 0, none⟩)) := by rw [hA]; rfl
        refine wp_region_inv3' (fun A D a w' => ∃ (l : List Value), a = putAll A 4 l ∧ l.length = 27 ∧ (∀ j, j < 27 → D j → l[j]? = some (snd9V b0 n kc tx ka j)) ∧ (D 20 ∨ (Below w1.heap.size w1 w')) ∧ (D 20 → (Below w1.heap.size w1 w'))) (by kernel_rfl) (by kernel_rfl) ?mono ?start ?step ?done
        case mono =>
          rintro D D' a w' hD ⟨l, ha, hlen, hl, hN, hL⟩
          exact ⟨l, ha, hlen, fun j hj h => hl j hj ((hD j).2 h), hN.imp_left (hD 20).1, fun h => hL ((hD 20).2 h)⟩
        case start => exact ⟨_, (putAll_start A 4 27 (by omega)).1, (putAll_start A 4 27 (by omega)).2, fun _ _ h => h.elim, .inr ((Below.refl _ w1).drew), fun h => h.elim⟩
        case step =>
          clear hA
          intro i o ho D a w' hI hn hcl hd
          obtain ⟨l, ha, hlen, hl, hN, hL⟩ := hI
          match i, ho with
          | 0, ho =>
            cases Option.some.inj ho
            refine .inl ⟨rfl, ?_⟩
            have ev : a.tmps[1]? = some (.pointer (some ⟨b0, 0, none⟩)) := by rw [ha, putAll_low A 4 1 l (by omega) (by decide)]; exact s1
            refine wp_value (w' := w') (v := .pointer (some ⟨b0, 0, none⟩)) (by simp [execOp, ev, go_sem]) ?_
            exact ⟨_, by rw [ha]; exact putAll_put A 4 0 l _ (by omega) (by omega), by rw [List.length_set]; exact hlen, set_known hlen (by decide) hl, hN.imp_left .inr, fun h => hL (h.resolve_left (by decide))⟩
          | 1, ho =>
            cases Option.some.inj ho
            refine .inl ⟨rfl, ?_⟩
            have ev : a.tmps[4]? = some (.pointer (some ⟨b0, 0, none⟩)) := known_at ha hsz hlen hl 0 (by decide) (hd ⟨0, .data⟩ (by simp) rfl)
            have hB : Below w1.heap.size w1 w' := hN.elim hL id
            obtain ⟨z0, z1, z2, z3, z4, z5, _⟩ := nd_cells (box w' hB)
            refine wp_value (w' := w') (v := .int .i64 9) (by simp [execOp, ev, go_sem, z0]) ?_
            exact ⟨_, by rw [ha]; exact putAll_put A 4 1 l _ (by omega) (by omega), by rw [List.length_set]; exact hlen, set_known hlen (by decide) hl, hN.imp_left .inr, fun h => hL (h.resolve_left (by decide))⟩
          | 2, ho =>
            cases Option.some.inj ho
            refine .inl ⟨rfl, ?_⟩
            have ev : a.tmps[5]? = some (.int .i64 9) := known_at ha hsz hlen hl 1 (by decide) (hd ⟨1, .data⟩ (by simp) rfl)
            refine wp_value (w' := w') (v := .bool false) (by simp [execOp, ev, go_sem]) ?_
            exact ⟨_, by rw [ha]; exact putAll_put A 4 2 l _ (by omega) (by omega), by rw [List.length_set]; exact hlen, set_known hlen (by decide) hl, hN.imp_left .inr, fun h => hL (h.resolve_left (by decide))⟩
          | 3, ho =>
            cases Option.some.inj ho
            refine .inl ⟨rfl, ?_⟩
            have ev : a.tmps[6]? = some (.bool false) := known_at ha hsz hlen hl 2 (by decide) (hd ⟨2, .data⟩ (by simp) rfl)
            refine wp_value (w' := w') (v := .bool false) (by simp [execOp, ev, go_sem]) ?_
            exact ⟨_, by rw [ha]; exact putAll_put A 4 3 l _ (by omega) (by omega), by rw [List.length_set]; exact hlen, set_known hlen (by decide) hl, hN.imp_left .inr, fun h => hL (h.resolve_left (by decide))⟩
          | 4, ho =>
            cases Option.some.inj ho
            refine .inr ⟨wanted_not (k := 7) rfl rfl rfl (known_at ha hsz hlen hl 3 (by decide) (hd ⟨3, .guard⟩ (by simp) rfl)) (by simp [snd9V, undef]), ?_⟩
            exact ⟨_, by rw [ha]; exact putAll_put A 4 4 l _ (by omega) (by omega), by rw [List.length_set]; exact hlen, set_known hlen (by decide) hl, hN.imp_left .inr, fun h => hL (h.resolve_left (by decide))⟩
          | 5, ho =>
            cases Option.some.inj ho
            refine .inr ⟨wanted_not (k := 7) rfl rfl rfl (known_at ha hsz hlen hl 3 (by decide) (hd ⟨3, .guard⟩ (by simp) rfl)) (by simp [snd9V, undef]), ?_⟩
            exact ⟨_, by rw [ha]; exact putAll_put A 4 5 l _ (by omega) (by omega), by rw [List.length_set]; exact hlen, set_known hlen (by decide) hl, hN.imp_left .inr, fun h => hL (h.resolve_left (by decide))⟩
          | 6, ho =>
            cases Option.some.inj ho
            refine .inr ⟨wanted_not (k := 7) rfl rfl rfl (known_at ha hsz hlen hl 3 (by decide) (hd ⟨3, .guard⟩ (by simp) rfl)) (by simp [snd9V, undef]), ?_⟩
            exact ⟨_, by rw [ha]; exact putAll_put A 4 6 l _ (by omega) (by omega), by rw [List.length_set]; exact hlen, set_known hlen (by decide) hl, hN.imp_left .inr, fun h => hL (h.resolve_left (by decide))⟩
          | 7, ho =>
            cases Option.some.inj ho
            refine .inr ⟨wanted_not (k := 7) rfl rfl rfl (known_at ha hsz hlen hl 3 (by decide) (hd ⟨3, .guard⟩ (by simp) rfl)) (by simp [snd9V, undef]), ?_⟩
            exact ⟨_, by rw [ha]; exact putAll_put A 4 7 l _ (by omega) (by omega), by rw [List.length_set]; exact hlen, set_known hlen (by decide) hl, hN.imp_left .inr, fun h => hL (h.resolve_left (by decide))⟩
          | 8, ho =>
            cases Option.some.inj ho
            refine .inr ⟨wanted_not (k := 7) rfl rfl rfl (known_at ha hsz hlen hl 3 (by decide) (hd ⟨3, .guard⟩ (by simp) rfl)) (by simp [snd9V, undef]), ?_⟩
            exact ⟨_, by rw [ha]; exact putAll_put A 4 8 l _ (by omega) (by omega), by rw [List.length_set]; exact hlen, set_known hlen (by decide) hl, hN.imp_left .inr, fun h => hL (h.resolve_left (by decide))⟩
          | 9, ho =>
            cases Option.some.inj ho
            refine .inr ⟨wanted_not (k := 7) rfl rfl rfl (known_at ha hsz hlen hl 3 (by decide) (hd ⟨3, .guard⟩ (by simp) rfl)) (by simp [snd9V, undef]), ?_⟩
            exact ⟨_, by rw [ha]; exact putAll_put A 4 9 l _ (by omega) (by omega), by rw [List.length_set]; exact hlen, set_known hlen (by decide) hl, hN.imp_left .inr, fun h => hL (h.resolve_left (by decide))⟩
          | 10, ho =>
            cases Option.some.inj ho
            refine .inr ⟨wanted_not (k := 7) rfl rfl rfl (known_at ha hsz hlen hl 3 (by decide) (hd ⟨3, .guard⟩ (by simp) rfl)) (by simp [snd9V, undef]), ?_⟩
            exact ⟨_, by rw [ha]; exact putAll_put A 4 10 l _ (by omega) (by omega), by rw [List.length_set]; exact hlen, set_known hlen (by decide) hl, hN.imp_left .inr, fun h => hL (h.resolve_left (by decide))⟩
          | 11, ho =>
            cases Option.some.inj ho
            refine .inr ⟨wanted_not (k := 7) rfl rfl rfl (known_at ha hsz hlen hl 3 (by decide) (hd ⟨3, .guard⟩ (by simp) rfl)) (by simp [snd9V, undef]), ?_⟩
            exact ⟨_, by rw [ha]; exact putAll_put A 4 11 l _ (by omega) (by omega), by rw [List.length_set]; exact hlen, set_known hlen (by decide) hl, hN.imp_left .inr, fun h => hL (h.resolve_left (by decide))⟩
          | 12, ho =>
            cases Option.some.inj ho
            refine .inl ⟨rfl, ?_⟩
            have ev : a.tmps[7]? = some (.bool false) := known_at ha hsz hlen hl 3 (by decide) (hd ⟨3, .data⟩ (by simp) rfl)
            refine wp_value (w' := w') (v := .bool false) (by simp [execOp, ev, go_sem]) ?_
            exact ⟨_, by rw [ha]; exact putAll_put A 4 12 l _ (by omega) (by omega), by rw [List.length_set]; exact hlen, set_known hlen (by decide) hl, hN.imp_left .inr, fun h => hL (h.resolve_left (by decide))⟩
          | 13, ho =>
            cases Option.some.inj ho
            refine .inl ⟨rfl, ?_⟩
            have ev : a.tmps[16]? = some (.bool false) := known_at ha hsz hlen hl 12 (by decide) (hd ⟨12, .data⟩ (by simp) rfl)
            refine wp_value (w' := w') (v := .bool false) (by simp [execOp, ev, go_sem]) ?_
            exact ⟨_, by rw [ha]; exact putAll_put A 4 13 l _ (by omega) (by omega), by rw [List.length_set]; exact hlen, set_known hlen (by decide) hl, hN.imp_left .inr, fun h => hL (h.resolve_left (by decide))⟩
          | 14, ho =>
            cases Option.some.inj ho
            refine .inl ⟨wanted_of (k := 17) rfl rfl rfl (known_at ha hsz hlen hl 13 (by decide) (hd ⟨13, .guard⟩ (by simp) rfl)), ?_⟩
            have ev : a.tmps[1]? = some (.pointer (some ⟨b0, 0, none⟩)) := by rw [ha, putAll_low A 4 1 l (by omega) (by decide)]; exact s1
            refine wp_value (w' := w') (v := .pointer (some ⟨b0, 0, none⟩)) (by simp [execOp, ev, go_sem]) ?_
            exact ⟨_, by rw [ha]; exact putAll_put A 4 14 l _ (by omega) (by omega), by rw [List.length_set]; exact hlen, set_known hlen (by decide) hl, hN.imp_left .inr, fun h => hL (h.resolve_left (by decide))⟩
          | 15, ho =>
            cases Option.some.inj ho
            refine .inl ⟨wanted_of (k := 17) rfl rfl rfl (known_at ha hsz hlen hl 13 (by decide) (hd ⟨13, .guard⟩ (by simp) rfl)), ?_⟩
            have ev : a.tmps[18]? = some (.pointer (some ⟨b0, 0, none⟩)) := known_at ha hsz hlen hl 14 (by decide) (hd ⟨14, .data⟩ (by simp) rfl)
            have hB : Below w1.heap.size w1 w' := hN.elim hL id
            obtain ⟨z0, z1, z2, z3, z4, z5, _⟩ := nd_cells (box w' hB)
            refine wp_value (w' := w') (v := .int .i64 9) (by simp [execOp, ev, go_sem, z0]) ?_
            exact ⟨_, by rw [ha]; exact putAll_put A 4 15 l _ (by omega) (by omega), by rw [List.length_set]; exact hlen, set_known hlen (by decide) hl, hN.imp_left .inr, fun h => hL (h.resolve_left (by decide))⟩
          | 16, ho =>
            cases Option.some.inj ho
            refine .inl ⟨wanted_of (k := 17) rfl rfl rfl (known_at ha hsz hlen hl 13 (by decide) (hd ⟨13, .guard⟩ (by simp) rfl)), ?_⟩
            have ev : a.tmps[19]? = some (.int .i64 9) := known_at ha hsz hlen hl 15 (by decide) (hd ⟨15, .data⟩ (by simp) rfl)
            refine wp_value (w' := w') (v := .bool true) (by simp [execOp, ev, go_sem]) ?_
            exact ⟨_, by rw [ha]; exact putAll_put A 4 16 l _ (by omega) (by omega), by rw [List.length_set]; exact hlen, set_known hlen (by decide) hl, hN.imp_left .inr, fun h => hL (h.resolve_left (by decide))⟩
          | 17, ho =>
            cases Option.some.inj ho
            refine .inl ⟨wanted_of (k := 17) rfl rfl rfl (known_at ha hsz hlen hl 13 (by decide) (hd ⟨13, .guard⟩ (by simp) rfl)), ?_⟩
            have ev : a.tmps[20]? = some (.bool true) := known_at ha hsz hlen hl 16 (by decide) (hd ⟨16, .data⟩ (by simp) rfl)
            refine wp_value (w' := w') (v := .bool true) (by simp [execOp, ev, go_sem]) ?_
            exact ⟨_, by rw [ha]; exact putAll_put A 4 17 l _ (by omega) (by omega), by rw [List.length_set]; exact hlen, set_known hlen (by decide) hl, hN.imp_left .inr, fun h => hL (h.resolve_left (by decide))⟩
          | 18, ho =>
            cases Option.some.inj ho
            refine .inl ⟨wanted_of (k := 21) rfl rfl rfl (known_at ha hsz hlen hl 17 (by decide) (hd ⟨17, .guard⟩ (by simp) rfl)), ?_⟩
            have ev : a.tmps[1]? = some (.pointer (some ⟨b0, 0, none⟩)) := by rw [ha, putAll_low A 4 1 l (by omega) (by decide)]; exact s1
            refine wp_value (w' := w') (v := .pointer (some ⟨b0, 1, none⟩)) (by simp [execOp, ev, go_sem]) ?_
            exact ⟨_, by rw [ha]; exact putAll_put A 4 18 l _ (by omega) (by omega), by rw [List.length_set]; exact hlen, set_known hlen (by decide) hl, hN.imp_left .inr, fun h => hL (h.resolve_left (by decide))⟩
          | 19, ho =>
            cases Option.some.inj ho
            refine .inl ⟨wanted_of (k := 21) rfl rfl rfl (known_at ha hsz hlen hl 17 (by decide) (hd ⟨17, .guard⟩ (by simp) rfl)), ?_⟩
            have ev : a.tmps[22]? = some (.pointer (some ⟨b0, 1, none⟩)) := known_at ha hsz hlen hl 18 (by decide) (hd ⟨18, .data⟩ (by simp) rfl)
            have hB : Below w1.heap.size w1 w' := hN.elim hL id
            obtain ⟨z0, z1, z2, z3, z4, z5, _⟩ := nd_cells (box w' hB)
            refine wp_value (w' := w') (v := .string (strOfNums tx)) (by simp [execOp, ev, go_sem, z1]) ?_
            exact ⟨_, by rw [ha]; exact putAll_put A 4 19 l _ (by omega) (by omega), by rw [List.length_set]; exact hlen, set_known hlen (by decide) hl, hN.imp_left .inr, fun h => hL (h.resolve_left (by decide))⟩
          | 20, ho =>
            cases Option.some.inj ho
            refine .inl ⟨wanted_of (k := 21) rfl rfl rfl (known_at ha hsz hlen hl 17 (by decide) (hd ⟨17, .guard⟩ (by simp) rfl)), ?_⟩
            have ev : a.tmps[23]? = some (.string (strOfNums tx)) := known_at ha hsz hlen hl 19 (by decide) (hd ⟨19, .data⟩ (by simp) rfl)
            have hN6 := hN.resolve_left hn
            refine wp_enter (f := 15) (args := #[.string (strOfNums tx)]) (by simp [execOp, ev, go_sem]) ?_
            refine (hargs w').mono ?_
            rintro e w6 ⟨rfl, B9⟩
            refine ⟨_, rfl, ?_⟩
            exact ⟨_, by rw [ha]; exact putAll_put A 4 20 l _ (by omega) (by omega), by rw [List.length_set]; exact hlen, set_known hlen (by decide) hl, .inl (.inl rfl), fun _ => hN6.trans (B9.mono hN6.size)⟩
          | 21, ho =>
            cases Option.some.inj ho
            refine .inl ⟨wanted_of (k := 21) rfl rfl rfl (known_at ha hsz hlen hl 17 (by decide) (hd ⟨17, .guard⟩ (by simp) rfl)), ?_⟩
            have ev : a.tmps[1]? = some (.pointer (some ⟨b0, 0, none⟩)) := by rw [ha, putAll_low A 4 1 l (by omega) (by decide)]; exact s1
            refine wp_value (w' := w') (v := .pointer (some ⟨b0, 5, none⟩)) (by simp [execOp, ev, go_sem]) ?_
            exact ⟨_, by rw [ha]; exact putAll_put A 4 21 l _ (by omega) (by omega), by rw [List.length_set]; exact hlen, set_known hlen (by decide) hl, hN.imp_left .inr, fun h => hL (h.resolve_left (by decide))⟩
          | 22, ho =>
            cases Option.some.inj ho
            refine .inl ⟨wanted_of (k := 21) rfl rfl rfl (known_at ha hsz hlen hl 17 (by decide) (hd ⟨17, .guard⟩ (by simp) rfl)), ?_⟩
            have ev : a.tmps[25]? = some (.pointer (some ⟨b0, 5, none⟩)) := known_at ha hsz hlen hl 21 (by decide) (hd ⟨21, .data⟩ (by simp) rfl)
            have hB : Below w1.heap.size w1 w' := hN.elim hL id
            obtain ⟨z0, z1, z2, z3, z4, z5, _⟩ := nd_cells (box w' hB)
            refine wp_value (w' := w') (v := .slice ka n kc) (by simp [execOp, ev, go_sem, z5]) ?_
            exact ⟨_, by rw [ha]; exact putAll_put A 4 22 l _ (by omega) (by omega), by rw [List.length_set]; exact hlen, set_known hlen (by decide) hl, hN.imp_left .inr, fun h => hL (h.resolve_left (by decide))⟩
          | 23, ho =>
            cases Option.some.inj ho
            refine .inl ⟨wanted_of (k := 21) rfl rfl rfl (known_at ha hsz hlen hl 17 (by decide) (hd ⟨17, .guard⟩ (by simp) rfl)), ?_⟩
            have ev : a.tmps[26]? = some (.slice ka n kc) := known_at ha hsz hlen hl 22 (by decide) (hd ⟨22, .data⟩ (by simp) rfl)
            refine wp_value (w' := w') (v := .int .i64 (n : Int)) (by simp [execOp, ev, go_sem]) ?_
            exact ⟨_, by rw [ha]; exact putAll_put A 4 23 l _ (by omega) (by omega), by rw [List.length_set]; exact hlen, set_known hlen (by decide) hl, hN.imp_left .inr, fun h => hL (h.resolve_left (by decide))⟩
          | 24, ho =>
            cases Option.some.inj ho
            refine .inl ⟨wanted_of (k := 21) rfl rfl rfl (known_at ha hsz hlen hl 17 (by decide) (hd ⟨17, .guard⟩ (by simp) rfl)), ?_⟩
            have ev : a.tmps[24]? = some (.int .i64 (argsL tx : Int)) := known_at ha hsz hlen hl 20 (by decide) (hd ⟨20, .data⟩ (by simp) rfl)
            have ev' : a.tmps[27]? = some (.int .i64 (n : Int)) := known_at ha hsz hlen hl 23 (by decide) (hd ⟨23, .data⟩ (by simp) rfl)
            refine wp_value (w' := w') (v := .bool false) (by simp [execOp, ev, ev', go_sem, hne]) ?_
            exact ⟨_, by rw [ha]; exact putAll_put A 4 24 l _ (by omega) (by omega), by rw [List.length_set]; exact hlen, set_known hlen (by decide) hl, hN.imp_left .inr, fun h => hL (h.resolve_left (by decide))⟩
          | 25, ho =>
            cases Option.some.inj ho
            refine .inl ⟨wanted_of (k := 17) rfl rfl rfl (known_at ha hsz hlen hl 13 (by decide) (hd ⟨13, .guard⟩ (by simp) rfl)), ?_⟩
            have ev : a.tmps[21]? = some (.bool true) := known_at ha hsz hlen hl 17 (by decide) (hd ⟨17, .data⟩ (by simp) rfl)
            have ev' : a.tmps[28]? = some (.bool false) := known_at ha hsz hlen hl 24 (by decide) (hd ⟨24, .data⟩ (by simp) rfl)
            refine wp_value (w' := w') (v := .bool false) (by simp [execOp, ev, ev', go_sem]) ?_
            exact ⟨_, by rw [ha]; exact putAll_put A 4 25 l _ (by omega) (by omega), by rw [List.length_set]; exact hlen, set_known hlen (by decide) hl, hN.imp_left .inr, fun h => hL (h.resolve_left (by decide))⟩
          | 26, ho =>
            cases Option.some.inj ho
            refine .inl ⟨rfl, ?_⟩
            have ev : a.tmps[17]? = some (.bool false) := known_at ha hsz hlen hl 13 (by decide) (hd ⟨13, .data⟩ (by simp) rfl)
            have ev' : a.tmps[29]? = some (.bool false) := known_at ha hsz hlen hl 25 (by decide) (hd ⟨25, .data⟩ (by simp) rfl)
            refine wp_value (w' := w') (v := .bool false) (by simp [execOp, ev, ev', go_sem]) ?_
            exact ⟨_, by rw [ha]; exact putAll_put A 4 26 l _ (by omega) (by omega), by rw [List.length_set]; exact hlen, set_known hlen (by decide) hl, hN.imp_left .inr, fun h => hL (h.resolve_left (by decide))⟩
          | i + 27, ho => simp at ho
        case done =>
          rintro D a w' ⟨l, ha, hlen, hl, hN, hL⟩ hall
          obtain ⟨v0, v1, v2, v3, v4, v5, v6, v7, v8, v9, v10, v11, v12, v13, v14, v15, v16, v17, v18, v19, v20, v21, v22, v23, v24, v25, v26, rfl⟩ := snd9V_list hlen
          have hB := hL (hall 20 (by decide))
          have hz := hl 26 (by decide) (hall 26 (by decide))
          simp only [List.getElem?_cons_succ, List.getElem?_cons_zero, Option.some.injEq] at hz
          have hz' : v26 = .bool false := hz
          subst hz'
          subst hA
          have hfr : a = _ := ha
          rw [hfr]
          clear hfr ha
          simp only [putAll, List.take_succ_cons, List.take_zero, List.drop_succ_cons, List.drop_zero, List.cons_append, List.nil_append, List.length_cons, List.length_nil]
          clear hl hN hL hall
          go_wp2
          go_meet
          exact ⟨rfl, hB⟩
      · have k7 : (k == 7) = false := by simp [hk7]
        have k9 : (k == 9) = false := by simp [hk9]
        refine abstract_act fun A hA => ?_
        have hsz : A.tmps.size = 78 := by rw [hA]; rfl
        have s1 : A.tmps[1]? = some (.pointer (some ⟨b0, 0, none⟩)) := by rw [hA]; rfl
        refine wp_region_inv3' (fun A D a w' => ∃ (l : List Value), a = putAll A 4 l ∧ l.length = 27 ∧ (∀ j, j < 27 → D j → l[j]? = some (sndoV b0 k j)) ∧ (D 26 ∨ (Below w1.heap.size w1 w')) ∧ (D 26 → (Below w1.heap.size w1 w'))) (by kernel_rfl) (by kernel_rfl) ?mono ?start ?step ?done
        case mono =>
          rintro D D' a w' hD ⟨l, ha, hlen, hl, hN, hL⟩
          exact ⟨l, ha, hlen, fun j hj h => hl j hj ((hD j).2 h), hN.imp_left (hD 26).1, fun h => hL ((hD 26).2 h)⟩
        case start => exact ⟨_, (putAll_start A 4 27 (by omega)).1, (putAll_start A 4 27 (by omega)).2, fun _ _ h => h.elim, .inr ((Below.refl _ w1).drew), fun h => h.elim⟩
        case step =>
          clear hA
          intro i o ho D a w' hI hn hcl hd
          obtain ⟨l, ha, hlen, hl, hN, hL⟩ := hI
          match i, ho with
          | 0, ho =>
            cases Option.some.inj ho
            refine .inl ⟨rfl, ?_⟩
            have ev : a.tmps[1]? = some (.pointer (some ⟨b0, 0, none⟩)) := by rw [ha, putAll_low A 4 1 l (by omega) (by decide)]; exact s1
            refine wp_value (w' := w') (v := .pointer (some ⟨b0, 0, none⟩)) (by simp [execOp, ev, go_sem]) ?_
            exact ⟨_, by rw [ha]; exact putAll_put A 4 0 l _ (by omega) (by omega), by rw [List.length_set]; exact hlen, set_known hlen (by decide) hl, hN.imp_left .inr, fun h => hL (h.resolve_left (by decide))⟩
          | 1, ho =>
            cases Option.some.inj ho
            refine .inl ⟨rfl, ?_⟩
            have ev : a.tmps[4]? = some (.pointer (some ⟨b0, 0, none⟩)) := known_at ha hsz hlen hl 0 (by decide) (hd ⟨0, .data⟩ (by simp) rfl)
            have hB : Below w1.heap.size w1 w' := hN.elim hL id
            obtain ⟨z0, z1, z2, z3, z4, z5, _⟩ := nd_cells (box w' hB)
            refine wp_value (w' := w') (v := .int .i64 k) (by simp [execOp, ev, go_sem, z0]) ?_
            exact ⟨_, by rw [ha]; exact putAll_put A 4 1 l _ (by omega) (by omega), by rw [List.length_set]; exact hlen, set_known hlen (by decide) hl, hN.imp_left .inr, fun h => hL (h.resolve_left (by decide))⟩
          | 2, ho =>
            cases Option.some.inj ho
            refine .inl ⟨rfl, ?_⟩
            have ev : a.tmps[5]? = some (.int .i64 k) := known_at ha hsz hlen hl 1 (by decide) (hd ⟨1, .data⟩ (by simp) rfl)
            refine wp_value (w' := w') (v := .bool false) (by simp [execOp, ev, go_sem, k7]) ?_
            exact ⟨_, by rw [ha]; exact putAll_put A 4 2 l _ (by omega) (by omega), by rw [List.length_set]; exact hlen, set_known hlen (by decide) hl, hN.imp_left .inr, fun h => hL (h.resolve_left (by decide))⟩
          | 3, ho =>
            cases Option.some.inj ho
            refine .inl ⟨rfl, ?_⟩
            have ev : a.tmps[6]? = some (.bool false) := known_at ha hsz hlen hl 2 (by decide) (hd ⟨2, .data⟩ (by simp) rfl)
            refine wp_value (w' := w') (v := .bool false) (by simp [execOp, ev, go_sem]) ?_
            exact ⟨_, by rw [ha]; exact putAll_put A 4 3 l _ (by omega) (by omega), by rw [List.length_set]; exact hlen, set_known hlen (by decide) hl, hN.imp_left .inr, fun h => hL (h.resolve_left (by decide))⟩
          | 4, ho =>
            cases Option.some.inj ho
            refine .inr ⟨wanted_not (k := 7) rfl rfl rfl (known_at ha hsz hlen hl 3 (by decide) (hd ⟨3, .guard⟩ (by simp) rfl)) (by simp [sndoV, undef]), ?_⟩
            exact ⟨_, by rw [ha]; exact putAll_put A 4 4 l _ (by omega) (by omega), by rw [List.length_set]; exact hlen, set_known hlen (by decide) hl, hN.imp_left .inr, fun h => hL (h.resolve_left (by decide))⟩
          | 5, ho =>
            cases Option.some.inj ho
            refine .inr ⟨wanted_not (k := 7) rfl rfl rfl (known_at ha hsz hlen hl 3 (by decide) (hd ⟨3, .guard⟩ (by simp) rfl)) (by simp [sndoV, undef]), ?_⟩
            exact ⟨_, by rw [ha]; exact putAll_put A 4 5 l _ (by omega) (by omega), by rw [List.length_set]; exact hlen, set_known hlen (by decide) hl, hN.imp_left .inr, fun h => hL (h.resolve_left (by decide))⟩
          | 6, ho =>
            cases Option.some.inj ho
            refine .inr ⟨wanted_not (k := 7) rfl rfl rfl (known_at ha hsz hlen hl 3 (by decide) (hd ⟨3, .guard⟩ (by simp) rfl)) (by simp [sndoV, undef]), ?_⟩
            exact ⟨_, by rw [ha]; exact putAll_put A 4 6 l _ (by omega) (by omega), by rw [List.length_set]; exact hlen, set_known hlen (by decide) hl, hN.imp_left .inr, fun h => hL (h.resolve_left (by decide))⟩
          | 7, ho =>
            cases Option.some.inj ho
            refine .inr ⟨wanted_not (k := 7) rfl rfl rfl (known_at ha hsz hlen hl 3 (by decide) (hd ⟨3, .guard⟩ (by simp) rfl)) (by simp [sndoV, undef]), ?_⟩
            exact ⟨_, by rw [ha]; exact putAll_put A 4 7 l _ (by omega) (by omega), by rw [List.length_set]; exact hlen, set_known hlen (by decide) hl, hN.imp_left .inr, fun h => hL (h.resolve_left (by decide))⟩
          | 8, ho =>
            cases Option.some.inj ho
            refine .inr ⟨wanted_not (k := 7) rfl rfl rfl (known_at ha hsz hlen hl 3 (by decide) (hd ⟨3, .guard⟩ (by simp) rfl)) (by simp [sndoV, undef]), ?_⟩
            exact ⟨_, by rw [ha]; exact putAll_put A 4 8 l _ (by omega) (by omega), by rw [List.length_set]; exact hlen, set_known hlen (by decide) hl, hN.imp_left .inr, fun h => hL (h.resolve_left (by decide))⟩
          | 9, ho =>
            cases Option.some.inj ho
            refine .inr ⟨wanted_not (k := 7) rfl rfl rfl (known_at ha hsz hlen hl 3 (by decide) (hd ⟨3, .guard⟩ (by simp) rfl)) (by simp [sndoV, undef]), ?_⟩
            exact ⟨_, by rw [ha]; exact putAll_put A 4 9 l _ (by omega) (by omega), by rw [List.length_set]; exact hlen, set_known hlen (by decide) hl, hN.imp_left .inr, fun h => hL (h.resolve_left (by decide))⟩
          | 10, ho =>
            cases Option.some.inj ho
            refine .inr ⟨wanted_not (k := 7) rfl rfl rfl (known_at ha hsz hlen hl 3 (by decide) (hd ⟨3, .guard⟩ (by simp) rfl)) (by simp [sndoV, undef]), ?_⟩
            exact ⟨_, by rw [ha]; exact putAll_put A 4 10 l _ (by omega) (by omega), by rw [List.length_set]; exact hlen, set_known hlen (by decide) hl, hN.imp_left .inr, fun h => hL (h.resolve_left (by decide))⟩
          | 11, ho =>
            cases Option.some.inj ho
            refine .inr ⟨wanted_not (k := 7) rfl rfl rfl (known_at ha hsz hlen hl 3 (by decide) (hd ⟨3, .guard⟩ (by simp) rfl)) (by simp [sndoV, undef]), ?_⟩
            exact ⟨_, by rw [ha]; exact putAll_put A 4 11 l _ (by omega) (by omega), by rw [List.length_set]; exact hlen, set_known hlen (by decide) hl, hN.imp_left .inr, fun h => hL (h.resolve_left (by decide))⟩
          | 12, ho =>
            cases Option.some.inj ho
            refine .inl ⟨rfl, ?_⟩
            have ev : a.tmps[7]? = some (.bool false) := known_at ha hsz hlen hl 3 (by decide) (hd ⟨3, .data⟩ (by simp) rfl)
            refine wp_value (w' := w') (v := .bool false) (by simp [execOp, ev, go_sem]) ?_
            exact ⟨_, by rw [ha]; exact putAll_put A 4 12 l _ (by omega) (by omega), by rw [List.length_set]; exact hlen, set_known hlen (by decide) hl, hN.imp_left .inr, fun h => hL (h.resolve_left (by decide))⟩
          | 13, ho =>
            cases Option.some.inj ho
            refine .inl ⟨rfl, ?_⟩
            have ev : a.tmps[16]? = some (.bool false) := known_at ha hsz hlen hl 12 (by decide) (hd ⟨12, .data⟩ (by simp) rfl)
            refine wp_value (w' := w') (v := .bool false) (by simp [execOp, ev, go_sem]) ?_
            exact ⟨_, by rw [ha]; exact putAll_put A 4 13 l _ (by omega) (by omega), by rw [List.length_set]; exact hlen, set_known hlen (by decide) hl, hN.imp_left .inr, fun h => hL (h.resolve_left (by decide))⟩
          | 14, ho =>
            cases Option.some.inj ho
            refine .inl ⟨wanted_of (k := 17) rfl rfl rfl (known_at ha hsz hlen hl 13 (by decide) (hd ⟨13, .guard⟩ (by simp) rfl)), ?_⟩
            have ev : a.tmps[1]? = some (.pointer (some ⟨b0, 0, none⟩)) := by rw [ha, putAll_low A 4 1 l (by omega) (by decide)]; exact s1
            refine wp_value (w' := w') (v := .pointer (some ⟨b0, 0, none⟩)) (by simp [execOp, ev, go_sem]) ?_
            exact ⟨_, by rw [ha]; exact putAll_put A 4 14 l _ (by omega) (by omega), by rw [List.length_set]; exact hlen, set_known hlen (by decide) hl, hN.imp_left .inr, fun h => hL (h.resolve_left (by decide))⟩
          | 15, ho =>
            cases Option.some.inj ho
            refine .inl ⟨wanted_of (k := 17) rfl rfl rfl (known_at ha hsz hlen hl 13 (by decide) (hd ⟨13, .guard⟩ (by simp) rfl)), ?_⟩
            have ev : a.tmps[18]? = some (.pointer (some ⟨b0, 0, none⟩)) := known_at ha hsz hlen hl 14 (by decide) (hd ⟨14, .data⟩ (by simp) rfl)
            have hB : Below w1.heap.size w1 w' := hN.elim hL id
            obtain ⟨z0, z1, z2, z3, z4, z5, _⟩ := nd_cells (box w' hB)
            refine wp_value (w' := w') (v := .int .i64 k) (by simp [execOp, ev, go_sem, z0]) ?_
            exact ⟨_, by rw [ha]; exact putAll_put A 4 15 l _ (by omega) (by omega), by rw [List.length_set]; exact hlen, set_known hlen (by decide) hl, hN.imp_left .inr, fun h => hL (h.resolve_left (by decide))⟩
          | 16, ho =>
            cases Option.some.inj ho
            refine .inl ⟨wanted_of (k := 17) rfl rfl rfl (known_at ha hsz hlen hl 13 (by decide) (hd ⟨13, .guard⟩ (by simp) rfl)), ?_⟩
            have ev : a.tmps[19]? = some (.int .i64 k) := known_at ha hsz hlen hl 15 (by decide) (hd ⟨15, .data⟩ (by simp) rfl)
            refine wp_value (w' := w') (v := .bool false) (by simp [execOp, ev, go_sem, k9]) ?_
            exact ⟨_, by rw [ha]; exact putAll_put A 4 16 l _ (by omega) (by omega), by rw [List.length_set]; exact hlen, set_known hlen (by decide) hl, hN.imp_left .inr, fun h => hL (h.resolve_left (by decide))⟩
          | 17, ho =>
            cases Option.some.inj ho
            refine .inl ⟨wanted_of (k := 17) rfl rfl rfl (known_at ha hsz hlen hl 13 (by decide) (hd ⟨13, .guard⟩ (by simp) rfl)), ?_⟩
            have ev : a.tmps[20]? = some (.bool false) := known_at ha hsz hlen hl 16 (by decide) (hd ⟨16, .data⟩ (by simp) rfl)
            refine wp_value (w' := w') (v := .bool false) (by simp [execOp, ev, go_sem]) ?_
            exact ⟨_, by rw [ha]; exact putAll_put A 4 17 l _ (by omega) (by omega), by rw [List.length_set]; exact hlen, set_known hlen (by decide) hl, hN.imp_left .inr, fun h => hL (h.resolve_left (by decide))⟩
          | 18, ho =>
            cases Option.some.inj ho
            refine .inr ⟨wanted_not (k := 21) rfl rfl rfl (known_at ha hsz hlen hl 17 (by decide) (hd ⟨17, .guard⟩ (by simp) rfl)) (by simp [sndoV, undef]), ?_⟩
            exact ⟨_, by rw [ha]; exact putAll_put A 4 18 l _ (by omega) (by omega), by rw [List.length_set]; exact hlen, set_known hlen (by decide) hl, hN.imp_left .inr, fun h => hL (h.resolve_left (by decide))⟩
          | 19, ho =>
            cases Option.some.inj ho
            refine .inr ⟨wanted_not (k := 21) rfl rfl rfl (known_at ha hsz hlen hl 17 (by decide) (hd ⟨17, .guard⟩ (by simp) rfl)) (by simp [sndoV, undef]), ?_⟩
            exact ⟨_, by rw [ha]; exact putAll_put A 4 19 l _ (by omega) (by omega), by rw [List.length_set]; exact hlen, set_known hlen (by decide) hl, hN.imp_left .inr, fun h => hL (h.resolve_left (by decide))⟩
          | 20, ho =>
            cases Option.some.inj ho
            refine .inr ⟨wanted_not (k := 21) rfl rfl rfl (known_at ha hsz hlen hl 17 (by decide) (hd ⟨17, .guard⟩ (by simp) rfl)) (by simp [sndoV, undef]), ?_⟩
            exact ⟨_, by rw [ha]; exact putAll_put A 4 20 l _ (by omega) (by omega), by rw [List.length_set]; exact hlen, set_known hlen (by decide) hl, hN.imp_left .inr, fun h => hL (h.resolve_left (by decide))⟩
          | 21, ho =>
            cases Option.some.inj ho
            refine .inr ⟨wanted_not (k := 21) rfl rfl rfl (known_at ha hsz hlen hl 17 (by decide) (hd ⟨17, .guard⟩ (by simp) rfl)) (by simp [sndoV, undef]), ?_⟩
            exact ⟨_, by rw [ha]; exact putAll_put A 4 21 l _ (by omega) (by omega), by rw [List.length_set]; exact hlen, set_known hlen (by decide) hl, hN.imp_left .inr, fun h => hL (h.resolve_left (by decide))⟩
          | 22, ho =>
            cases Option.some.inj ho
            refine .inr ⟨wanted_not (k := 21) rfl rfl rfl (known_at ha hsz hlen hl 17 (by decide) (hd ⟨17, .guard⟩ (by simp) rfl)) (by simp [sndoV, undef]), ?_⟩
            exact ⟨_, by rw [ha]; exact putAll_put A 4 22 l _ (by omega) (by omega), by rw [List.length_set]; exact hlen, set_known hlen (by decide) hl, hN.imp_left .inr, fun h => hL (h.resolve_left (by decide))⟩
          | 23, ho =>
            cases Option.some.inj ho
            refine .inr ⟨wanted_not (k := 21) rfl rfl rfl (known_at ha hsz hlen hl 17 (by decide) (hd ⟨17, .guard⟩ (by simp) rfl)) (by simp [sndoV, undef]), ?_⟩
            exact ⟨_, by rw [ha]; exact putAll_put A 4 23 l _ (by omega) (by omega), by rw [List.length_set]; exact hlen, set_known hlen (by decide) hl, hN.imp_left .inr, fun h => hL (h.resolve_left (by decide))⟩
          | 24, ho =>
            cases Option.some.inj ho
            refine .inr ⟨wanted_not (k := 21) rfl rfl rfl (known_at ha hsz hlen hl 17 (by decide) (hd ⟨17, .guard⟩ (by simp) rfl)) (by simp [sndoV, undef]), ?_⟩
            exact ⟨_, by rw [ha]; exact putAll_put A 4 24 l _ (by omega) (by omega), by rw [List.length_set]; exact hlen, set_known hlen (by decide) hl, hN.imp_left .inr, fun h => hL (h.resolve_left (by decide))⟩
          | 25, ho =>
            cases Option.some.inj ho
            refine .inl ⟨wanted_of (k := 17) rfl rfl rfl (known_at ha hsz hlen hl 13 (by decide) (hd ⟨13, .guard⟩ (by simp) rfl)), ?_⟩
            have ev : a.tmps[21]? = some (.bool false) := known_at ha hsz hlen hl 17 (by decide) (hd ⟨17, .data⟩ (by simp) rfl)
            refine wp_value (w' := w') (v := .bool false) (by simp [execOp, ev, go_sem]) ?_
            exact ⟨_, by rw [ha]; exact putAll_put A 4 25 l _ (by omega) (by omega), by rw [List.length_set]; exact hlen, set_known hlen (by decide) hl, hN.imp_left .inr, fun h => hL (h.resolve_left (by decide))⟩
          | 26, ho =>
            cases Option.some.inj ho
            refine .inl ⟨rfl, ?_⟩
            have ev : a.tmps[17]? = some (.bool false) := known_at ha hsz hlen hl 13 (by decide) (hd ⟨13, .data⟩ (by simp) rfl)
            have ev' : a.tmps[29]? = some (.bool false) := known_at ha hsz hlen hl 25 (by decide) (hd ⟨25, .data⟩ (by simp) rfl)
            refine wp_value (w' := w') (v := .bool false) (by simp [execOp, ev, ev', go_sem]) ?_
            exact ⟨_, by rw [ha]; exact putAll_put A 4 26 l _ (by omega) (by omega), by rw [List.length_set]; exact hlen, set_known hlen (by decide) hl, .inl (.inl rfl), fun _ => (hN.elim hL id : Below w1.heap.size w1 w')⟩
          | i + 27, ho => simp at ho
        case done =>
          rintro D a w' ⟨l, ha, hlen, hl, hN, hL⟩ hall
          obtain ⟨v0, v1, v2, v3, v4, v5, v6, v7, v8, v9, v10, v11, v12, v13, v14, v15, v16, v17, v18, v19, v20, v21, v22, v23, v24, v25, v26, rfl⟩ := sndoV_list hlen
          have hB := hL (hall 26 (by decide))
          have hz := hl 26 (by decide) (hall 26 (by decide))
          simp only [List.getElem?_cons_succ, List.getElem?_cons_zero, Option.some.injEq] at hz
          have hz' : v26 = .bool false := hz
          subst hz'
          subst hA
          have hfr : a = _ := ha
          rw [hfr]
          clear hfr ha
          simp only [putAll, List.take_succ_cons, List.take_zero, List.drop_succ_cons, List.drop_zero, List.cons_append, List.nil_append, List.length_cons, List.length_nil]
          clear hl hN hL hall
          go_wp2
          go_meet
          exact ⟨rfl, hB⟩
  case rest =>
    obtain ⟨rfl, hB⟩ := hcut
    have hq0 : ¬ (q : Int) < 0 := by omega
    have hqm : ¬ (m : Int) < (q : Int) := by omega
    have hbl1 : b0 ≤ w1.heap.size := by omega
    go_upto_region 3 with fail
    go_cut [63] from 31 to 63 (fun v wx => v = .bool false ∧ wx = wc)
    case first =>
      obtain ⟨z0, z1, z2, z3, z4, z5, _⟩ := nd_cells (box wc hB)
      by_cases h11 : k = 11
      · subst h11
        have hn1 : ((n : Int) != 1) = false := by have := h1 (.inl rfl); simp [this]
        clear h1 h7 h9
        go_wp2
        go_meet
        exact ⟨rfl, rfl⟩
      · have k11 : (k == 11) = false := by simp [h11]
        by_cases h6 : k = 6
        · subst h6
          have hn1 : ((n : Int) != 1) = false := by have := h1 (.inr rfl); simp [this]
          clear h1 h7 h9
          go_wp2
          go_meet
          exact ⟨rfl, rfl⟩
        · have k6 : (k == 6) = false := by simp [h6]
          go_wp2
          go_meet
          exact ⟨rfl, rfl⟩
    case rest =>
      obtain ⟨rfl, rfl⟩ := hcut
      clear h1 h7 h9 hargs hbt hq0 hqm
      go_wp2_with fail
      go_loopw [3] (fun v wr => ∃ i : Nat, v = .int .i64 (i : Int) ∧ i ≤ n ∧ Below w1.heap.size w1 wr) (fun v _ => n - (intOf v).toNat)
      case atStart => exact ⟨0, rfl, Nat.zero_le _, hB⟩
      case round =>
        obtain ⟨i, rfl, hi, hBr⟩ := hrel
        obtain ⟨z0, z1, z2, z3, z4, z5, _⟩ := nd_cells (box wr hBr)
        by_cases hp : i < n
        · have hltI : (i : Int) < (n : Int) := by omega
          have hi0 : (0 : Int) ≤ (i : Int) := by omega
          have hw0 : IntKind.i64.wrap ((i : Int) + 1) = ((i + 1 : Nat) : Int) := by rw [IntKind.wrap_i64]; omega
          obtain ⟨y, b, off, v0, v1, v2, v3, v4, v5, rfl, hbl, HS, hNy, c0, c1, c2, c3, c4, c5⟩ := hkid i hp
          have tr : ∀ j u, w.cell? ⟨b, j, none⟩ = some u → wr.cell? ⟨b, j, none⟩ = some u := fun j u h => (World.cell?_of_block (a := ⟨b, j, none⟩) ((hBr.block b (by omega)).trans (B1.block b (by omega)))).trans h
          have hNr := hNy.imp (fun b' hb' hA => ⟨hA, (hBr.block b' (by omega)).trans (B1.block b' (by omega))⟩) (w' := wr) (A' := A)
          obtain ⟨ya, yc, yk, ykc, _, hyv, _⟩ := hNr.parts
          simp only [Value.agg.injEq, Array.mk.injEq, List.cons.injEq, and_true] at hyv
          obtain ⟨rfl, rfl, rfl, rfl, rfl, rfl⟩ := hyv
          replace c0 := tr _ _ c0
          replace c1 := tr _ _ c1
          replace c2 := tr _ _ c2
          replace c3 := tr _ _ c3
          replace c4 := tr _ _ c4
          replace c5 := tr _ _ c5
          clear tr hkid box hNy
          go_wp2_with fail
          refine (HS A wr _ hNr).mono ?_
          rintro e w5 ⟨rfl, B5⟩
          go_wp2
          go_roundw
          case rel => exact ⟨i + 1, by go_num, hp, hBr.trans (B5.mono hBr.size)⟩
          case measure => simp [intOf]; omega
        · have hltI : ¬ (i : Int) < (n : Int) := by omega
          go_wp2
          go_ret
          exact ⟨rfl, B1.trans (hBr.mono hbl1)⟩
theorem sends_true (x : Nd) (hs : Shp x) : SendsC x := by
  induction hs with
  | mk k t p n l kids h7 h9 h11 h6 hn ht hk ih => exact sends_step (.mk k t p n l kids h7 h9 h11 h6 hn ht hk) ih
end Go.Proofs.YtncfmhlikmibaaaGreatDoor
namespace Go.Proofs.YtncfmhlikmibaaaGreatDoor
open Go.RowKit
set_option maxRecDepth 100000
/-- What the operations yield. -/
def shpkV (b2 n nc kc m p : Nat) (tx : List Int) (na ka : Option Addr) (j : Nat) : Value :=
  ([.int .i64 0,
    .bool false,
    .bool false,
    .pointer (some ⟨b2, 0, none⟩),
    .int .i64 12,
    .bool true,
    .bool true,
    .pointer (some ⟨b2, 3, none⟩),
    .int .i64 (argsL tx : Int),
    .pointer (some ⟨b2, 1, none⟩),
    .string (strOfNums tx),
    .int .i64 (argsL tx : Int),
    .bool true,
    .bool true,
    .bool true,
    .agg #[.int .i64 12, .string (strOfNums tx), .int .i64 (p : Int), .int .i64 (argsL tx : Int), .slice na m nc, .slice ka n kc],
    .bool true,
    .bool true,
    .bool true,
    .bool true,
    .bool true,
    .bool true] : List Value).getD j undef
theorem shpkV_list {l : List Value} (hh : l.length = 22) : ∃ v0 v1 v2 v3 v4 v5 v6 v7 v8 v9 v10 v11 v12 v13 v14 v15 v16 v17 v18 v19 v20 v21, l = [v0, v1, v2, v3, v4, v5, v6, v7, v8, v9, v10, v11, v12, v13, v14, v15, v16, v17, v18, v19, v20, v21] := by
  obtain ⟨v0, t0, rfl, h0⟩ := cons_of hh
  obtain ⟨v1, t1, rfl, h1⟩ := cons_of h0
  obtain ⟨v2, t2, rfl, h2⟩ := cons_of h1
  obtain ⟨v3, t3, rfl, h3⟩ := cons_of h2
  obtain ⟨v4, t4, rfl, h4⟩ := cons_of h3
  obtain ⟨v5, t5, rfl, h5⟩ := cons_of h4
  obtain ⟨v6, t6, rfl, h6⟩ := cons_of h5
  obtain ⟨v7, t7, rfl, h7⟩ := cons_of h6
  obtain ⟨v8, t8, rfl, h8⟩ := cons_of h7
  obtain ⟨v9, t9, rfl, h9⟩ := cons_of h8
  obtain ⟨v10, t10, rfl, h10⟩ := cons_of h9
  obtain ⟨v11, t11, rfl, h11⟩ := cons_of h10
  obtain ⟨v12, t12, rfl, h12⟩ := cons_of h11
  obtain ⟨v13, t13, rfl, h13⟩ := cons_of h12
  obtain ⟨v14, t14, rfl, h14⟩ := cons_of h13
  obtain ⟨v15, t15, rfl, h15⟩ := cons_of h14
  obtain ⟨v16, t16, rfl, h16⟩ := cons_of h15
  obtain ⟨v17, t17, rfl, h17⟩ := cons_of h16
  obtain ⟨v18, t18, rfl, h18⟩ := cons_of h17
  obtain ⟨v19, t19, rfl, h19⟩ := cons_of h18
  obtain ⟨v20, t20, rfl, h20⟩ := cons_of h19
  obtain ⟨v21, t21, rfl, h21⟩ := cons_of h20
  obtain rfl := List.eq_nil_of_length_eq_zero h21
  exact ⟨_, _, _, _, _, _, _, _, _, _, _, _, _, _, _, _, _, _, _, _, _, _, rfl⟩
/-- What the operations yield. -/
def shpeV (f : Int) (j : Nat) : Value :=
  ([.int .i64 f,
    .bool true,
    .bool true,
    undef,
    undef,
    undef,
    undef,
    undef,
    undef,
    undef,
    undef,
    undef,
    undef,
    undef,
    undef,
    undef,
    undef,
    undef,
    .bool true,
    .bool true,
    .bool true,
    .bool true] : List Value).getD j undef
theorem shpeV_list {l : List Value} (hh : l.length = 22) : ∃ v0 v1 v2 v3 v4 v5 v6 v7 v8 v9 v10 v11 v12 v13 v14 v15 v16 v17 v18 v19 v20 v21, l = [v0, v1, v2, v3, v4, v5, v6, v7, v8, v9, v10, v11, v12, v13, v14, v15, v16, v17, v18, v19, v20, v21] := by
  obtain ⟨v0, t0, rfl, h0⟩ := cons_of hh
  obtain ⟨v1, t1, rfl, h1⟩ := cons_of h0
  obtain ⟨v2, t2, rfl, h2⟩ := cons_of h1
  obtain ⟨v3, t3, rfl, h3⟩ := cons_of h2
  obtain ⟨v4, t4, rfl, h4⟩ := cons_of h3
  obtain ⟨v5, t5, rfl, h5⟩ := cons_of h4
  obtain ⟨v6, t6, rfl, h6⟩ := cons_of h5
  obtain ⟨v7, t7, rfl, h7⟩ := cons_of h6
  obtain ⟨v8, t8, rfl, h8⟩ := cons_of h7
  obtain ⟨v9, t9, rfl, h9⟩ := cons_of h8
  obtain ⟨v10, t10, rfl, h10⟩ := cons_of h9
  obtain ⟨v11, t11, rfl, h11⟩ := cons_of h10
  obtain ⟨v12, t12, rfl, h12⟩ := cons_of h11
  obtain ⟨v13, t13, rfl, h13⟩ := cons_of h12
  obtain ⟨v14, t14, rfl, h14⟩ := cons_of h13
  obtain ⟨v15, t15, rfl, h15⟩ := cons_of h14
  obtain ⟨v16, t16, rfl, h16⟩ := cons_of h15
  obtain ⟨v17, t17, rfl, h17⟩ := cons_of h16
  obtain ⟨v18, t18, rfl, h18⟩ := cons_of h17
  obtain ⟨v19, t19, rfl, h19⟩ := cons_of h18
  obtain ⟨v20, t20, rfl, h20⟩ := cons_of h19
  obtain ⟨v21, t21, rfl, h21⟩ := cons_of h20
  obtain rfl := List.eq_nil_of_length_eq_zero h21
  exact ⟨_, _, _, _, _, _, _, _, _, _, _, _, _, _, _, _, _, _, _, _, _, _, rfl⟩
set_option maxHeartbeats 8000000 in
theorem treeShape_true (ss : List Int) (w : World) (hb : ∀ x ∈ ss, 0 ≤ x ∧ x < 256) (hm : ss.length ≤ 9223372036854775807) : Calls Tryz.prog 6 #[.string (strOfNums ss)] w fun e w' => e = .returned (.bool true) ∧ Below w.heap.size w w' := by
  have P1 := fun w => parse_any 8 false (.inl ⟨rfl, rfl⟩) ss w hb hm
  have P2 := fun w => parse_any 13 true (.inr ⟨rfl, rfl⟩) ss w hb hm
  go_enter Tryz.func6, Tryz.ntmps6
  go_wp2_with fail
  refine (P1 _).mono ?_
  rintro e w2 ⟨x1, pl1, er1, v1, ht1, rfl, hn1, B2⟩
  have hs1 : Hid (er1 ≠ 0 ∨ (er1 = 0 ∧ Shp x1 ∧ x1.kind = 12 ∧ x1.text = [])) := (shape_of hb ht1).imp id fun h => ⟨h.1, h.2.1, h.2.2.1, h.2.2.2.1 rfl⟩
  obtain ⟨na1, nc1, ka1, kc1, _, hv1, _⟩ := hn1.parts
  replace hv1 : Hid (v1 = _) := hv1
  go_wp2_with (refine al25 _ rfl rfl ?_)
  intro b1 w3 E3 hb1 B3
  go_wp2_with (refine st25 _ rfl _ _ rfl rfl _ _ _ _ _ _ _ _ _ _ _ rfl hv1.out E3 ?_)
  intro w4 E4 S4
  have B24 : Below w2.heap.size w2 w4 := B3.trans (S4.below hb1)
  have hn4 := NdV.imp (w := w2) (w' := w4) (A := fun b => w.heap.size ≤ b) (A' := fun b => w.heap.size ≤ b) (fun b hb hA => ⟨hA, B24.block b hb⟩) _ _ hn1
  have B04 := B2.trans (B24.mono B2.size)
  clear E3 B3 S4 B24 hn1 B2 ht1
  go_wp2_with fail
  refine (P2 _).mono ?_
  rintro e w5 ⟨x2, pl2, er2, v2, ht2, rfl, hn2, B5⟩
  have hs2 : Hid (er2 ≠ 0 ∨ (er2 = 0 ∧ Shp x2 ∧ x2.kind = 12 ∧ x2.n = argsL x2.text)) := (shape_of hb ht2).imp id fun h => ⟨h.1, h.2.1, h.2.2.1, h.2.2.2.2 rfl⟩
  obtain ⟨na2, nc2, ka2, kc2, _, hv2, _⟩ := hn2.parts
  replace hv2 : Hid (v2 = _) := hv2
  have E5 := (B5.block b1 (lt_of_block E4)).trans E4
  have hn5 := NdV.imp (w := w4) (w' := w5) (A := fun b => w.heap.size ≤ b) (A' := fun b => w.heap.size ≤ b) (fun b hb hA => ⟨hA, B5.block b hb⟩) _ _ hn4
  have B05 := B04.trans (B5.mono B04.size)
  clear E4 B5 hn4 B04 ht2 P1 P2
  go_wp2_with (refine al25 _ rfl rfl ?_)
  intro b2 w6 E6 hb2 B6
  go_wp2_with (refine st25 _ rfl _ _ rfl rfl _ _ _ _ _ _ _ _ _ _ _ rfl hv2.out E6 ?_)
  intro w7 E7 S7
  have B57 : Below w5.heap.size w5 w7 := B6.trans (S7.below hb2)
  have E1 := (B57.block b1 (lt_of_block E5)).trans E5
  have hn7 := NdV.imp (w := w5) (w' := w7) (A := fun b => w.heap.size ≤ b) (A' := fun b => w.heap.size ≤ b) (fun b hb hA => ⟨hA, B57.block b hb⟩) _ _ hn5
  have hn8 := NdV.imp (w := w5) (w' := w7) (A := fun b => w4.heap.size ≤ b) (A' := fun b => w4.heap.size ≤ b) (fun b hb hA => ⟨hA, B57.block b hb⟩) _ _ hn2
  have B07 := B05.trans (B57.mono B05.size)
  clear E5 E6 B6 S7 B57 hn5 hn2 B05
  go_upto_region 3 with fail
  go_cut [37] from 21 to 37 (fun v wx => v = .bool false ∧ Below w7.heap.size w7 wx)
  case first =>
    clear hs2 hn8 E7 hv2
    rcases hs1.out with he | ⟨he, sh, hk, ht⟩
    · replace he : (er1 == 0) = false := by simpa using he
      clear hs1
      go_wp2
      go_meet
      exact ⟨rfl, Below.refl _ _⟩
    · replace he : (er1 == 0) = true := by simpa using he
      clear hs1
      have e0 : strOfNums [] = ⟨#[]⟩ := rfl
      have HS := sends_true x1 sh _ w7 _ hn7
      rw [hv1.out, hk, ht, e0] at HS
      rw [hk, ht, e0] at E1
      clear hn7 sh hk ht e0 hv1
      obtain ⟨z0, z1, z2, z3, z4, z5, _⟩ := nd_cells E1
      go_wp2_with fail
      refine HS.mono ?_
      rintro e w8 ⟨rfl, B8⟩
      go_wp2
      go_meet
      exact ⟨rfl, B8⟩
  case rest =>
    obtain ⟨rfl, hBc⟩ := hcut
    clear hs1 hn7 E1 hv1
    have B1 := B07.trans (hBc.mono B07.size)
    have E8 := (hBc.block b2 (lt_of_block E7)).trans E7
    have hn9 := NdV.imp (w := w7) (w' := wc) (A := fun b => w4.heap.size ≤ b) (A' := fun b => w4.heap.size ≤ b) (fun b hb hA => ⟨hA, hBc.block b hb⟩) _ _ hn8
    clear E7 hn8 B07 hBc
    rcases hs2.out with hf | ⟨rfl, sh, hk, ht⟩
    · replace hf : (er2 != 0) = true := by simpa using hf
      clear E8 hn9 hs2 hv2
      go_upto_region 5 with fail
      generalize er2 = f at *
      generalize wc = w1 at *
      refine abstract_act fun A hA => ?_
      have hsz : A.tmps.size = 60 := by rw [hA]; rfl
      have st : A.tmps[2]? = some (.bool false) := by rw [hA]; rfl
      have s6 : A.tmps[6]? = some (.pointer (some ⟨b2, 0, none⟩)) := by rw [hA]; rfl
      have s8 : A.tmps[8]? = some (.int .i64 f) := by rw [hA]; rfl
      refine wp_region_inv3' (fun A D a w' => ∃ (l : List Value) (vt : Value), a = (putAll A 38 l).put (some 2) vt ∧ l.length = 22 ∧ (∀ j, j < 22 → D j → l[j]? = some (shpeV f j)) ∧ (D 22 → vt = .bool true) ∧ (Below w1.heap.size w1 w')) (by kernel_rfl) (by kernel_rfl) ?mono ?start ?step ?done
      case mono =>
        rintro D D' a w' hD ⟨l, vt, ha, hlen, hl, hvt, hB⟩
        exact ⟨l, vt, ha, hlen, fun j hj h => hl j hj ((hD j).2 h), fun h => hvt ((hD 22).2 h), hB⟩
      case start => exact ⟨_, _, putT_start A 38 22 2 _ (by omega) (by decide) st, (putAll_start A 38 22 (by omega)).2, fun _ _ h => h.elim, fun h => h.elim, (Below.refl _ w1).drew⟩
      case step =>
        clear hA
        intro i o ho D a w' hI hn hcl hd
        obtain ⟨l, vt, ha, hlen, hl, hvt, hB⟩ := hI
        match i, ho with
        | 0, ho =>
          cases Option.some.inj ho
          refine .inl ⟨rfl, ?_⟩
          have ev : a.tmps[8]? = some (.int .i64 f) := by rw [ha, putT_other _ _ _ _ (by decide), putAll_low A 38 8 l (by omega) (by decide)]; exact s8
          refine wp_value (w' := w') (v := .int .i64 f) (by simp [execOp, ev, go_sem]) ?_
          exact ⟨_, vt, by rw [ha]; exact putT_put A 38 0 2 l _ _ (by omega) (by omega) (by decide), by rw [List.length_set]; exact hlen, set_known hlen (by decide) hl, fun h => hvt (h.resolve_left (by decide)), hB⟩
        | 1, ho =>
          cases Option.some.inj ho
          refine .inl ⟨rfl, ?_⟩
          have ev : a.tmps[38]? = some (.int .i64 f) := known_atT ha hsz hlen hl 0 (by decide) (hd ⟨0, .data⟩ (by simp) rfl)
          refine wp_value (w' := w') (v := .bool true) (by simp [execOp, ev, go_sem, hf]) ?_
          exact ⟨_, vt, by rw [ha]; exact putT_put A 38 1 2 l _ _ (by omega) (by omega) (by decide), by rw [List.length_set]; exact hlen, set_known hlen (by decide) hl, fun h => hvt (h.resolve_left (by decide)), hB⟩
        | 2, ho =>
          cases Option.some.inj ho
          refine .inl ⟨rfl, ?_⟩
          have ev : a.tmps[39]? = some (.bool true) := known_atT ha hsz hlen hl 1 (by decide) (hd ⟨1, .data⟩ (by simp) rfl)
          refine wp_value (w' := w') (v := .bool true) (by simp [execOp, ev, go_sem]) ?_
          exact ⟨_, vt, by rw [ha]; exact putT_put A 38 2 2 l _ _ (by omega) (by omega) (by decide), by rw [List.length_set]; exact hlen, set_known hlen (by decide) hl, fun h => hvt (h.resolve_left (by decide)), hB⟩
        | 3, ho =>
          cases Option.some.inj ho
          refine .inr ⟨wanted_not (k := 40) rfl rfl rfl (known_atT ha hsz hlen hl 2 (by decide) (hd ⟨2, .guard⟩ (by simp) rfl)) (by simp [shpeV, undef]), ?_⟩
          exact ⟨_, vt, by rw [ha]; exact putT_put A 38 3 2 l _ _ (by omega) (by omega) (by decide), by rw [List.length_set]; exact hlen, set_known hlen (by decide) hl, fun h => hvt (h.resolve_left (by decide)), hB⟩
        | 4, ho =>
          cases Option.some.inj ho
          refine .inr ⟨wanted_not (k := 40) rfl rfl rfl (known_atT ha hsz hlen hl 2 (by decide) (hd ⟨2, .guard⟩ (by simp) rfl)) (by simp [shpeV, undef]), ?_⟩
          exact ⟨_, vt, by rw [ha]; exact putT_put A 38 4 2 l _ _ (by omega) (by omega) (by decide), by rw [List.length_set]; exact hlen, set_known hlen (by decide) hl, fun h => hvt (h.resolve_left (by decide)), hB⟩
        | 5, ho =>
          cases Option.some.inj ho
          refine .inr ⟨wanted_not (k := 40) rfl rfl rfl (known_atT ha hsz hlen hl 2 (by decide) (hd ⟨2, .guard⟩ (by simp) rfl)) (by simp [shpeV, undef]), ?_⟩
          exact ⟨_, vt, by rw [ha]; exact putT_put A 38 5 2 l _ _ (by omega) (by omega) (by decide), by rw [List.length_set]; exact hlen, set_known hlen (by decide) hl, fun h => hvt (h.resolve_left (by decide)), hB⟩
        | 6, ho =>
          cases Option.some.inj ho
          refine .inr ⟨wanted_not (k := 40) rfl rfl rfl (known_atT ha hsz hlen hl 2 (by decide) (hd ⟨2, .guard⟩ (by simp) rfl)) (by simp [shpeV, undef]), ?_⟩
          exact ⟨_, vt, by rw [ha]; exact putT_put A 38 6 2 l _ _ (by omega) (by omega) (by decide), by rw [List.length_set]; exact hlen, set_known hlen (by decide) hl, fun h => hvt (h.resolve_left (by decide)), hB⟩
        | 7, ho =>
          cases Option.some.inj ho
          refine .inr ⟨wanted_not (k := 44) rfl rfl rfl (known_atT ha hsz hlen hl 6 (by decide) (hd ⟨6, .guard⟩ (by simp) rfl)) (by simp [shpeV, undef]), ?_⟩
          exact ⟨_, vt, by rw [ha]; exact putT_put A 38 7 2 l _ _ (by omega) (by omega) (by decide), by rw [List.length_set]; exact hlen, set_known hlen (by decide) hl, fun h => hvt (h.resolve_left (by decide)), hB⟩
        | 8, ho =>
          cases Option.some.inj ho
          refine .inr ⟨wanted_not (k := 44) rfl rfl rfl (known_atT ha hsz hlen hl 6 (by decide) (hd ⟨6, .guard⟩ (by simp) rfl)) (by simp [shpeV, undef]), ?_⟩
          exact ⟨_, vt, by rw [ha]; exact putT_put A 38 8 2 l _ _ (by omega) (by omega) (by decide), by rw [List.length_set]; exact hlen, set_known hlen (by decide) hl, fun h => hvt (h.resolve_left (by decide)), hB⟩
        | 9, ho =>
          cases Option.some.inj ho
          refine .inr ⟨wanted_not (k := 44) rfl rfl rfl (known_atT ha hsz hlen hl 6 (by decide) (hd ⟨6, .guard⟩ (by simp) rfl)) (by simp [shpeV, undef]), ?_⟩
          exact ⟨_, vt, by rw [ha]; exact putT_put A 38 9 2 l _ _ (by omega) (by omega) (by decide), by rw [List.length_set]; exact hlen, set_known hlen (by decide) hl, fun h => hvt (h.resolve_left (by decide)), hB⟩
        | 10, ho =>
          cases Option.some.inj ho
          refine .inr ⟨wanted_not (k := 44) rfl rfl rfl (known_atT ha hsz hlen hl 6 (by decide) (hd ⟨6, .guard⟩ (by simp) rfl)) (by simp [shpeV, undef]), ?_⟩
          exact ⟨_, vt, by rw [ha]; exact putT_put A 38 10 2 l _ _ (by omega) (by omega) (by decide), by rw [List.length_set]; exact hlen, set_known hlen (by decide) hl, fun h => hvt (h.resolve_left (by decide)), hB⟩
        | 11, ho =>
          cases Option.some.inj ho
          refine .inr ⟨wanted_not (k := 44) rfl rfl rfl (known_atT ha hsz hlen hl 6 (by decide) (hd ⟨6, .guard⟩ (by simp) rfl)) (by simp [shpeV, undef]), ?_⟩
          exact ⟨_, vt, by rw [ha]; exact putT_put A 38 11 2 l _ _ (by omega) (by omega) (by decide), by rw [List.length_set]; exact hlen, set_known hlen (by decide) hl, fun h => hvt (h.resolve_left (by decide)), hB⟩
        | 12, ho =>
          cases Option.some.inj ho
          refine .inr ⟨wanted_not (k := 44) rfl rfl rfl (known_atT ha hsz hlen hl 6 (by decide) (hd ⟨6, .guard⟩ (by simp) rfl)) (by simp [shpeV, undef]), ?_⟩
          exact ⟨_, vt, by rw [ha]; exact putT_put A 38 12 2 l _ _ (by omega) (by omega) (by decide), by rw [List.length_set]; exact hlen, set_known hlen (by decide) hl, fun h => hvt (h.resolve_left (by decide)), hB⟩
        | 13, ho =>
          cases Option.some.inj ho
          refine .inr ⟨wanted_not (k := 40) rfl rfl rfl (known_atT ha hsz hlen hl 2 (by decide) (hd ⟨2, .guard⟩ (by simp) rfl)) (by simp [shpeV, undef]), ?_⟩
          exact ⟨_, vt, by rw [ha]; exact putT_put A 38 13 2 l _ _ (by omega) (by omega) (by decide), by rw [List.length_set]; exact hlen, set_known hlen (by decide) hl, fun h => hvt (h.resolve_left (by decide)), hB⟩
        | 14, ho =>
          cases Option.some.inj ho
          refine .inr ⟨wanted_not (k := 40) rfl rfl rfl (known_atT ha hsz hlen hl 2 (by decide) (hd ⟨2, .guard⟩ (by simp) rfl)) (by simp [shpeV, undef]), ?_⟩
          exact ⟨_, vt, by rw [ha]; exact putT_put A 38 14 2 l _ _ (by omega) (by omega) (by decide), by rw [List.length_set]; exact hlen, set_known hlen (by decide) hl, fun h => hvt (h.resolve_left (by decide)), hB⟩
        | 15, ho =>
          cases Option.some.inj ho
          refine .inr ⟨wanted_not (k := 52) rfl rfl rfl (known_atT ha hsz hlen hl 14 (by decide) (hd ⟨14, .guard⟩ (by simp) rfl)) (by simp [shpeV, undef]), ?_⟩
          exact ⟨_, vt, by rw [ha]; exact putT_put A 38 15 2 l _ _ (by omega) (by omega) (by decide), by rw [List.length_set]; exact hlen, set_known hlen (by decide) hl, fun h => hvt (h.resolve_left (by decide)), hB⟩
        | 16, ho =>
          cases Option.some.inj ho
          refine .inr ⟨wanted_not (k := 52) rfl rfl rfl (known_atT ha hsz hlen hl 14 (by decide) (hd ⟨14, .guard⟩ (by simp) rfl)) (by simp [shpeV, undef]), ?_⟩
          exact ⟨_, vt, by rw [ha]; exact putT_put A 38 16 2 l _ _ (by omega) (by omega) (by decide), by rw [List.length_set]; exact hlen, set_known hlen (by decide) hl, fun h => hvt (h.resolve_left (by decide)), hB⟩
        | 17, ho =>
          cases Option.some.inj ho
          refine .inr ⟨wanted_not (k := 40) rfl rfl rfl (known_atT ha hsz hlen hl 2 (by decide) (hd ⟨2, .guard⟩ (by simp) rfl)) (by simp [shpeV, undef]), ?_⟩
          exact ⟨_, vt, by rw [ha]; exact putT_put A 38 17 2 l _ _ (by omega) (by omega) (by decide), by rw [List.length_set]; exact hlen, set_known hlen (by decide) hl, fun h => hvt (h.resolve_left (by decide)), hB⟩
        | 18, ho =>
          cases Option.some.inj ho
          refine .inl ⟨rfl, ?_⟩
          have ev : a.tmps[40]? = some (.bool true) := known_atT ha hsz hlen hl 2 (by decide) (hd ⟨2, .data⟩ (by simp) rfl)
          refine wp_value (w' := w') (v := .bool true) (by simp [execOp, ev, go_sem]) ?_
          exact ⟨_, vt, by rw [ha]; exact putT_put A 38 18 2 l _ _ (by omega) (by omega) (by decide), by rw [List.length_set]; exact hlen, set_known hlen (by decide) hl, fun h => hvt (h.resolve_left (by decide)), hB⟩
        | 19, ho =>
          cases Option.some.inj ho
          refine .inl ⟨rfl, ?_⟩
          have ev : a.tmps[56]? = some (.bool true) := known_atT ha hsz hlen hl 18 (by decide) (hd ⟨18, .data⟩ (by simp) rfl)
          refine wp_value (w' := w') (v := .bool true) (by simp [execOp, ev, go_sem]) ?_
          exact ⟨_, vt, by rw [ha]; exact putT_put A 38 19 2 l _ _ (by omega) (by omega) (by decide), by rw [List.length_set]; exact hlen, set_known hlen (by decide) hl, fun h => hvt (h.resolve_left (by decide)), hB⟩
        | 20, ho =>
          cases Option.some.inj ho
          refine .inl ⟨wanted_of (k := 57) rfl rfl rfl (known_atT ha hsz hlen hl 19 (by decide) (hd ⟨19, .guard⟩ (by simp) rfl)), ?_⟩
          refine wp_enter (f := 12) (args := #[]) (by simp [execOp, go_sem]) ?_
          refine (known_true w').mono ?_
          rintro e w6 ⟨rfl, B9⟩
          refine ⟨_, rfl, ?_⟩
          exact ⟨_, vt, by rw [ha]; exact putT_put A 38 20 2 l _ _ (by omega) (by omega) (by decide), by rw [List.length_set]; exact hlen, set_known hlen (by decide) hl, fun h => hvt (h.resolve_left (by decide)), hB.trans (B9.mono hB.size)⟩
        | 21, ho =>
          cases Option.some.inj ho
          refine .inl ⟨rfl, ?_⟩
          have ev : a.tmps[57]? = some (.bool true) := known_atT ha hsz hlen hl 19 (by decide) (hd ⟨19, .data⟩ (by simp) rfl)
          have ev' : a.tmps[58]? = some (.bool true) := known_atT ha hsz hlen hl 20 (by decide) (hd ⟨20, .data⟩ (by simp) rfl)
          refine wp_value (w' := w') (v := .bool true) (by simp [execOp, ev, ev', go_sem]) ?_
          exact ⟨_, vt, by rw [ha]; exact putT_put A 38 21 2 l _ _ (by omega) (by omega) (by decide), by rw [List.length_set]; exact hlen, set_known hlen (by decide) hl, fun h => hvt (h.resolve_left (by decide)), hB⟩
        | 22, ho =>
          cases Option.some.inj ho
          refine .inl ⟨rfl, ?_⟩
          have ev : a.tmps[59]? = some (.bool true) := known_atT ha hsz hlen hl 21 (by decide) (hd ⟨21, .data⟩ (by simp) rfl)
          refine wp_value (w' := w') (v := .bool true) (by simp [execOp, ev, go_sem]) ?_
          exact ⟨l, (.bool true), by rw [ha]; exact putT_again _ _ _ _, hlen, fun j hj h => hl j hj (h.resolve_left (by omega)), fun _ => rfl, hB⟩
        | i + 23, ho => simp at ho
      case done =>
        rintro D a w' ⟨l, vt, ha, hlen, hl, hvt, hB⟩ hall
        obtain rfl := hvt (hall 22 (by decide))
        obtain ⟨v0, v1, v2, v3, v4, v5, v6, v7, v8, v9, v10, v11, v12, v13, v14, v15, v16, v17, v18, v19, v20, v21, rfl⟩ := shpeV_list hlen
        subst hA
        have hfr : a = _ := ha
        rw [hfr]
        clear hfr ha
        simp only [putAll, Act.put, List.setIfInBounds_toArray, List.set_cons_zero, List.set_cons_succ, List.take_succ_cons, List.take_zero, List.drop_succ_cons, List.drop_zero, List.cons_append, List.nil_append, List.length_cons, List.length_nil]
        clear hl hlen hall
        go_wp2
        go_ret
        exact ⟨rfl, B1.trans (hB.mono B1.size)⟩
    · have hna := ht
      have hbt := sh.byt
      have hl3 : x2.text.length ≤ 100000000 := by
        obtain ⟨_, _, _, _, _, _, _, _, _, _, _, h⟩ := hn9.parts
        exact h
      have hsend0 := fun w' (B : Below wc.heap.size wc w') => sends_true x2 sh (fun b => w4.heap.size ≤ b) w' _ (NdV.imp (w := wc) (w' := w') (A := fun b => w4.heap.size ≤ b) (A' := fun b => w4.heap.size ≤ b) (fun b hb hA => ⟨hA, B.block b hb⟩) _ _ hn9)
      rw [hv2.out, hk, hna] at hsend0
      rw [hk, hna] at E8
      have hargs := fun w => args_is x2.text w hbt (by omega)
      clear hn9 sh hbt ht hna hk hs2 hv2
      go_upto_region 5 with fail
      generalize x2.text = tx at *
      generalize x2.names.length = m at *
      generalize x2.kids.length = n at *
      generalize x2.pos = p at *
      generalize hna' : na2 = na at *
      generalize hnc' : nc2 = nc at *
      generalize hka' : ka2 = ka at *
      generalize hkc' : kc2 = kc at *
      generalize wc = w1 at *
      have hsend := hsend0
      have box : ∀ w', Below w1.heap.size w1 w' → w'.heap[b2]? = _ := fun w' B => (B.block b2 (lt_of_block E8)).trans E8
      refine abstract_act fun A hA => ?_
      have hsz : A.tmps.size = 60 := by rw [hA]; rfl
      have st : A.tmps[2]? = some (.bool false) := by rw [hA]; rfl
      have s6 : A.tmps[6]? = some (.pointer (some ⟨b2, 0, none⟩)) := by rw [hA]; rfl
      have s8 : A.tmps[8]? = some (.int .i64 0) := by rw [hA]; rfl
      refine wp_region_inv2' (fun A D a w' => ∃ (l : List Value) (vt : Value), a = (putAll A 38 l).put (some 2) vt ∧ l.length = 22 ∧ (∀ j, j < 22 → D j → l[j]? = some (shpkV b2 n nc kc m p tx na ka j)) ∧ (D 22 → vt = .bool true) ∧ (Below w1.heap.size w1 w')) (by kernel_rfl) (by kernel_rfl) ?mono ?start ?step ?done
      case mono =>
        rintro D D' a w' hD ⟨l, vt, ha, hlen, hl, hvt, hB⟩
        exact ⟨l, vt, ha, hlen, fun j hj h => hl j hj ((hD j).2 h), fun h => hvt ((hD 22).2 h), hB⟩
      case start => exact ⟨_, _, putT_start A 38 22 2 _ (by omega) (by decide) st, (putAll_start A 38 22 (by omega)).2, fun _ _ h => h.elim, fun h => h.elim, (Below.refl _ w1).drew⟩
      case step =>
        clear hA
        intro i o ho D a w' hI hn hcl hd
        obtain ⟨l, vt, ha, hlen, hl, hvt, hB⟩ := hI
        match i, ho with
        | 0, ho =>
          cases Option.some.inj ho
          refine ⟨rfl, ?_⟩
          have ev : a.tmps[8]? = some (.int .i64 0) := by rw [ha, putT_other _ _ _ _ (by decide), putAll_low A 38 8 l (by omega) (by decide)]; exact s8
          refine wp_value (w' := w') (v := .int .i64 0) (by simp [execOp, ev, go_sem]) ?_
          exact ⟨_, vt, by rw [ha]; exact putT_put A 38 0 2 l _ _ (by omega) (by omega) (by decide), by rw [List.length_set]; exact hlen, set_known hlen (by decide) hl, fun h => hvt (h.resolve_left (by decide)), hB⟩
        | 1, ho =>
          cases Option.some.inj ho
          refine ⟨rfl, ?_⟩
          have ev : a.tmps[38]? = some (.int .i64 0) := known_atT ha hsz hlen hl 0 (by decide) (hd ⟨0, .data⟩ (by simp) rfl)
          refine wp_value (w' := w') (v := .bool false) (by simp [execOp, ev, go_sem]) ?_
          exact ⟨_, vt, by rw [ha]; exact putT_put A 38 1 2 l _ _ (by omega) (by omega) (by decide), by rw [List.length_set]; exact hlen, set_known hlen (by decide) hl, fun h => hvt (h.resolve_left (by decide)), hB⟩
        | 2, ho =>
          cases Option.some.inj ho
          refine ⟨rfl, ?_⟩
          have ev : a.tmps[39]? = some (.bool false) := known_atT ha hsz hlen hl 1 (by decide) (hd ⟨1, .data⟩ (by simp) rfl)
          refine wp_value (w' := w') (v := .bool false) (by simp [execOp, ev, go_sem]) ?_
          exact ⟨_, vt, by rw [ha]; exact putT_put A 38 2 2 l _ _ (by omega) (by omega) (by decide), by rw [List.length_set]; exact hlen, set_known hlen (by decide) hl, fun h => hvt (h.resolve_left (by decide)), hB⟩
        | 3, ho =>
          cases Option.some.inj ho
          refine ⟨wanted_of (k := 40) rfl rfl rfl (known_atT ha hsz hlen hl 2 (by decide) (hd ⟨2, .guard⟩ (by simp) rfl)), ?_⟩
          have ev : a.tmps[6]? = some (.pointer (some ⟨b2, 0, none⟩)) := by rw [ha, putT_other _ _ _ _ (by decide), putAll_low A 38 6 l (by omega) (by decide)]; exact s6
          refine wp_value (w' := w') (v := .pointer (some ⟨b2, 0, none⟩)) (by simp [execOp, ev, go_sem]) ?_
          exact ⟨_, vt, by rw [ha]; exact putT_put A 38 3 2 l _ _ (by omega) (by omega) (by decide), by rw [List.length_set]; exact hlen, set_known hlen (by decide) hl, fun h => hvt (h.resolve_left (by decide)), hB⟩
        | 4, ho =>
          cases Option.some.inj ho
          refine ⟨wanted_of (k := 40) rfl rfl rfl (known_atT ha hsz hlen hl 2 (by decide) (hd ⟨2, .guard⟩ (by simp) rfl)), ?_⟩
          have ev : a.tmps[41]? = some (.pointer (some ⟨b2, 0, none⟩)) := known_atT ha hsz hlen hl 3 (by decide) (hd ⟨3, .data⟩ (by simp) rfl)
          obtain ⟨z0, z1, z2, z3, z4, z5, _⟩ := nd_cells (box w' hB)
          refine wp_value (w' := w') (v := .int .i64 12) (by simp [execOp, ev, go_sem, z0]) ?_
          exact ⟨_, vt, by rw [ha]; exact putT_put A 38 4 2 l _ _ (by omega) (by omega) (by decide), by rw [List.length_set]; exact hlen, set_known hlen (by decide) hl, fun h => hvt (h.resolve_left (by decide)), hB⟩
        | 5, ho =>
          cases Option.some.inj ho
          refine ⟨wanted_of (k := 40) rfl rfl rfl (known_atT ha hsz hlen hl 2 (by decide) (hd ⟨2, .guard⟩ (by simp) rfl)), ?_⟩
          have ev : a.tmps[42]? = some (.int .i64 12) := known_atT ha hsz hlen hl 4 (by decide) (hd ⟨4, .data⟩ (by simp) rfl)
          refine wp_value (w' := w') (v := .bool true) (by simp [execOp, ev, go_sem]) ?_
          exact ⟨_, vt, by rw [ha]; exact putT_put A 38 5 2 l _ _ (by omega) (by omega) (by decide), by rw [List.length_set]; exact hlen, set_known hlen (by decide) hl, fun h => hvt (h.resolve_left (by decide)), hB⟩
        | 6, ho =>
          cases Option.some.inj ho
          refine ⟨wanted_of (k := 40) rfl rfl rfl (known_atT ha hsz hlen hl 2 (by decide) (hd ⟨2, .guard⟩ (by simp) rfl)), ?_⟩
          have ev : a.tmps[43]? = some (.bool true) := known_atT ha hsz hlen hl 5 (by decide) (hd ⟨5, .data⟩ (by simp) rfl)
          refine wp_value (w' := w') (v := .bool true) (by simp [execOp, ev, go_sem]) ?_
          exact ⟨_, vt, by rw [ha]; exact putT_put A 38 6 2 l _ _ (by omega) (by omega) (by decide), by rw [List.length_set]; exact hlen, set_known hlen (by decide) hl, fun h => hvt (h.resolve_left (by decide)), hB⟩
        | 7, ho =>
          cases Option.some.inj ho
          refine ⟨wanted_of (k := 44) rfl rfl rfl (known_atT ha hsz hlen hl 6 (by decide) (hd ⟨6, .guard⟩ (by simp) rfl)), ?_⟩
          have ev : a.tmps[6]? = some (.pointer (some ⟨b2, 0, none⟩)) := by rw [ha, putT_other _ _ _ _ (by decide), putAll_low A 38 6 l (by omega) (by decide)]; exact s6
          refine wp_value (w' := w') (v := .pointer (some ⟨b2, 3, none⟩)) (by simp [execOp, ev, go_sem]) ?_
          exact ⟨_, vt, by rw [ha]; exact putT_put A 38 7 2 l _ _ (by omega) (by omega) (by decide), by rw [List.length_set]; exact hlen, set_known hlen (by decide) hl, fun h => hvt (h.resolve_left (by decide)), hB⟩
        | 8, ho =>
          cases Option.some.inj ho
          refine ⟨wanted_of (k := 44) rfl rfl rfl (known_atT ha hsz hlen hl 6 (by decide) (hd ⟨6, .guard⟩ (by simp) rfl)), ?_⟩
          have ev : a.tmps[45]? = some (.pointer (some ⟨b2, 3, none⟩)) := known_atT ha hsz hlen hl 7 (by decide) (hd ⟨7, .data⟩ (by simp) rfl)
          obtain ⟨z0, z1, z2, z3, z4, z5, _⟩ := nd_cells (box w' hB)
          refine wp_value (w' := w') (v := .int .i64 (argsL tx : Int)) (by simp [execOp, ev, go_sem, z3]) ?_
          exact ⟨_, vt, by rw [ha]; exact putT_put A 38 8 2 l _ _ (by omega) (by omega) (by decide), by rw [List.length_set]; exact hlen, set_known hlen (by decide) hl, fun h => hvt (h.resolve_left (by decide)), hB⟩
        | 9, ho =>
          cases Option.some.inj ho
          refine ⟨wanted_of (k := 44) rfl rfl rfl (known_atT ha hsz hlen hl 6 (by decide) (hd ⟨6, .guard⟩ (by simp) rfl)), ?_⟩
          have ev : a.tmps[6]? = some (.pointer (some ⟨b2, 0, none⟩)) := by rw [ha, putT_other _ _ _ _ (by decide), putAll_low A 38 6 l (by omega) (by decide)]; exact s6
          refine wp_value (w' := w') (v := .pointer (some ⟨b2, 1, none⟩)) (by simp [execOp, ev, go_sem]) ?_
          exact ⟨_, vt, by rw [ha]; exact putT_put A 38 9 2 l _ _ (by omega) (by omega) (by decide), by rw [List.length_set]; exact hlen, set_known hlen (by decide) hl, fun h => hvt (h.resolve_left (by decide)), hB⟩
        | 10, ho =>
          cases Option.some.inj ho
          refine ⟨wanted_of (k := 44) rfl rfl rfl (known_atT ha hsz hlen hl 6 (by decide) (hd ⟨6, .guard⟩ (by simp) rfl)), ?_⟩
          have ev : a.tmps[47]? = some (.pointer (some ⟨b2, 1, none⟩)) := known_atT ha hsz hlen hl 9 (by decide) (hd ⟨9, .data⟩ (by simp) rfl)
          obtain ⟨z0, z1, z2, z3, z4, z5, _⟩ := nd_cells (box w' hB)
          refine wp_value (w' := w') (v := .string (strOfNums tx)) (by simp [execOp, ev, go_sem, z1]) ?_
          exact ⟨_, vt, by rw [ha]; exact putT_put A 38 10 2 l _ _ (by omega) (by omega) (by decide), by rw [List.length_set]; exact hlen, set_known hlen (by decide) hl, fun h => hvt (h.resolve_left (by decide)), hB⟩
        | 11, ho =>
          cases Option.some.inj ho
          refine ⟨wanted_of (k := 44) rfl rfl rfl (known_atT ha hsz hlen hl 6 (by decide) (hd ⟨6, .guard⟩ (by simp) rfl)), ?_⟩
          have ev : a.tmps[48]? = some (.string (strOfNums tx)) := known_atT ha hsz hlen hl 10 (by decide) (hd ⟨10, .data⟩ (by simp) rfl)
          refine wp_enter (f := 15) (args := #[.string (strOfNums tx)]) (by simp [execOp, ev, go_sem]) ?_
          refine (hargs w').mono ?_
          rintro e w6 ⟨rfl, B9⟩
          refine ⟨_, rfl, ?_⟩
          exact ⟨_, vt, by rw [ha]; exact putT_put A 38 11 2 l _ _ (by omega) (by omega) (by decide), by rw [List.length_set]; exact hlen, set_known hlen (by decide) hl, fun h => hvt (h.resolve_left (by decide)), hB.trans (B9.mono hB.size)⟩
        | 12, ho =>
          cases Option.some.inj ho
          refine ⟨wanted_of (k := 44) rfl rfl rfl (known_atT ha hsz hlen hl 6 (by decide) (hd ⟨6, .guard⟩ (by simp) rfl)), ?_⟩
          have ev : a.tmps[46]? = some (.int .i64 (argsL tx : Int)) := known_atT ha hsz hlen hl 8 (by decide) (hd ⟨8, .data⟩ (by simp) rfl)
          have ev' : a.tmps[49]? = some (.int .i64 (argsL tx : Int)) := known_atT ha hsz hlen hl 11 (by decide) (hd ⟨11, .data⟩ (by simp) rfl)
          refine wp_value (w' := w') (v := .bool true) (by simp [execOp, ev, ev', go_sem]) ?_
          exact ⟨_, vt, by rw [ha]; exact putT_put A 38 12 2 l _ _ (by omega) (by omega) (by decide), by rw [List.length_set]; exact hlen, set_known hlen (by decide) hl, fun h => hvt (h.resolve_left (by decide)), hB⟩
        | 13, ho =>
          cases Option.some.inj ho
          refine ⟨wanted_of (k := 40) rfl rfl rfl (known_atT ha hsz hlen hl 2 (by decide) (hd ⟨2, .guard⟩ (by simp) rfl)), ?_⟩
          have ev : a.tmps[44]? = some (.bool true) := known_atT ha hsz hlen hl 6 (by decide) (hd ⟨6, .data⟩ (by simp) rfl)
          have ev' : a.tmps[50]? = some (.bool true) := known_atT ha hsz hlen hl 12 (by decide) (hd ⟨12, .data⟩ (by simp) rfl)
          refine wp_value (w' := w') (v := .bool true) (by simp [execOp, ev, ev', go_sem]) ?_
          exact ⟨_, vt, by rw [ha]; exact putT_put A 38 13 2 l _ _ (by omega) (by omega) (by decide), by rw [List.length_set]; exact hlen, set_known hlen (by decide) hl, fun h => hvt (h.resolve_left (by decide)), hB⟩
        | 14, ho =>
          cases Option.some.inj ho
          refine ⟨wanted_of (k := 40) rfl rfl rfl (known_atT ha hsz hlen hl 2 (by decide) (hd ⟨2, .guard⟩ (by simp) rfl)), ?_⟩
          have ev : a.tmps[51]? = some (.bool true) := known_atT ha hsz hlen hl 13 (by decide) (hd ⟨13, .data⟩ (by simp) rfl)
          refine wp_value (w' := w') (v := .bool true) (by simp [execOp, ev, go_sem]) ?_
          exact ⟨_, vt, by rw [ha]; exact putT_put A 38 14 2 l _ _ (by omega) (by omega) (by decide), by rw [List.length_set]; exact hlen, set_known hlen (by decide) hl, fun h => hvt (h.resolve_left (by decide)), hB⟩
        | 15, ho =>
          cases Option.some.inj ho
          refine ⟨wanted_of (k := 52) rfl rfl rfl (known_atT ha hsz hlen hl 14 (by decide) (hd ⟨14, .guard⟩ (by simp) rfl)), ?_⟩
          have ev : a.tmps[6]? = some (.pointer (some ⟨b2, 0, none⟩)) := by rw [ha, putT_other _ _ _ _ (by decide), putAll_low A 38 6 l (by omega) (by decide)]; exact s6
          obtain ⟨z0, z1, z2, z3, z4, z5, _⟩ := nd_cells (box w' hB)
          refine wp_value (w' := w') (v := .agg #[.int .i64 12, .string (strOfNums tx), .int .i64 (p : Int), .int .i64 (argsL tx : Int), .slice na m nc, .slice ka n kc]) (by simp [execOp, ev, go_sem, z0, z1, z2, z3, z4, z5]) ?_
          exact ⟨_, vt, by rw [ha]; exact putT_put A 38 15 2 l _ _ (by omega) (by omega) (by decide), by rw [List.length_set]; exact hlen, set_known hlen (by decide) hl, fun h => hvt (h.resolve_left (by decide)), hB⟩
        | 16, ho =>
          cases Option.some.inj ho
          refine ⟨wanted_of (k := 52) rfl rfl rfl (known_atT ha hsz hlen hl 14 (by decide) (hd ⟨14, .guard⟩ (by simp) rfl)), ?_⟩
          have ev : a.tmps[53]? = some (.agg #[.int .i64 12, .string (strOfNums tx), .int .i64 (p : Int), .int .i64 (argsL tx : Int), .slice na m nc, .slice ka n kc]) := known_atT ha hsz hlen hl 15 (by decide) (hd ⟨15, .data⟩ (by simp) rfl)
          refine wp_enter (f := 17) (args := #[.agg #[.int .i64 12, .string (strOfNums tx), .int .i64 (p : Int), .int .i64 (argsL tx : Int), .slice na m nc, .slice ka n kc]]) (by simp [execOp, ev, go_sem]) ?_
          refine (hsend w' hB).mono ?_
          rintro e w6 ⟨rfl, B9⟩
          refine ⟨_, rfl, ?_⟩
          exact ⟨_, vt, by rw [ha]; exact putT_put A 38 16 2 l _ _ (by omega) (by omega) (by decide), by rw [List.length_set]; exact hlen, set_known hlen (by decide) hl, fun h => hvt (h.resolve_left (by decide)), hB.trans (B9.mono hB.size)⟩
        | 17, ho =>
          cases Option.some.inj ho
          refine ⟨wanted_of (k := 40) rfl rfl rfl (known_atT ha hsz hlen hl 2 (by decide) (hd ⟨2, .guard⟩ (by simp) rfl)), ?_⟩
          have ev : a.tmps[52]? = some (.bool true) := known_atT ha hsz hlen hl 14 (by decide) (hd ⟨14, .data⟩ (by simp) rfl)
          have ev' : a.tmps[54]? = some (.bool true) := known_atT ha hsz hlen hl 16 (by decide) (hd ⟨16, .data⟩ (by simp) rfl)
          refine wp_value (w' := w') (v := .bool true) (by simp [execOp, ev, ev', go_sem]) ?_
          exact ⟨_, vt, by rw [ha]; exact putT_put A 38 17 2 l _ _ (by omega) (by omega) (by decide), by rw [List.length_set]; exact hlen, set_known hlen (by decide) hl, fun h => hvt (h.resolve_left (by decide)), hB⟩
        | 18, ho =>
          cases Option.some.inj ho
          refine ⟨rfl, ?_⟩
          have ev : a.tmps[40]? = some (.bool false) := known_atT ha hsz hlen hl 2 (by decide) (hd ⟨2, .data⟩ (by simp) rfl)
          have ev' : a.tmps[55]? = some (.bool true) := known_atT ha hsz hlen hl 17 (by decide) (hd ⟨17, .data⟩ (by simp) rfl)
          refine wp_value (w' := w') (v := .bool true) (by simp [execOp, ev, ev', go_sem]) ?_
          exact ⟨_, vt, by rw [ha]; exact putT_put A 38 18 2 l _ _ (by omega) (by omega) (by decide), by rw [List.length_set]; exact hlen, set_known hlen (by decide) hl, fun h => hvt (h.resolve_left (by decide)), hB⟩
        | 19, ho =>
          cases Option.some.inj ho
          refine ⟨rfl, ?_⟩
          have ev : a.tmps[56]? = some (.bool true) := known_atT ha hsz hlen hl 18 (by decide) (hd ⟨18, .data⟩ (by simp) rfl)
          refine wp_value (w' := w') (v := .bool true) (by simp [execOp, ev, go_sem]) ?_
          exact ⟨_, vt, by rw [ha]; exact putT_put A 38 19 2 l _ _ (by omega) (by omega) (by decide), by rw [List.length_set]; exact hlen, set_known hlen (by decide) hl, fun h => hvt (h.resolve_left (by decide)), hB⟩
        | 20, ho =>
          cases Option.some.inj ho
          refine ⟨wanted_of (k := 57) rfl rfl rfl (known_atT ha hsz hlen hl 19 (by decide) (hd ⟨19, .guard⟩ (by simp) rfl)), ?_⟩
          refine wp_enter (f := 12) (args := #[]) (by simp [execOp, go_sem]) ?_
          refine (known_true w').mono ?_
          rintro e w6 ⟨rfl, B9⟩
          refine ⟨_, rfl, ?_⟩
          exact ⟨_, vt, by rw [ha]; exact putT_put A 38 20 2 l _ _ (by omega) (by omega) (by decide), by rw [List.length_set]; exact hlen, set_known hlen (by decide) hl, fun h => hvt (h.resolve_left (by decide)), hB.trans (B9.mono hB.size)⟩
        | 21, ho =>
          cases Option.some.inj ho
          refine ⟨rfl, ?_⟩
          have ev : a.tmps[57]? = some (.bool true) := known_atT ha hsz hlen hl 19 (by decide) (hd ⟨19, .data⟩ (by simp) rfl)
          have ev' : a.tmps[58]? = some (.bool true) := known_atT ha hsz hlen hl 20 (by decide) (hd ⟨20, .data⟩ (by simp) rfl)
          refine wp_value (w' := w') (v := .bool true) (by simp [execOp, ev, ev', go_sem]) ?_
          exact ⟨_, vt, by rw [ha]; exact putT_put A 38 21 2 l _ _ (by omega) (by omega) (by decide), by rw [List.length_set]; exact hlen, set_known hlen (by decide) hl, fun h => hvt (h.resolve_left (by decide)), hB⟩
        | 22, ho =>
          cases Option.some.inj ho
          refine ⟨rfl, ?_⟩
          have ev : a.tmps[59]? = some (.bool true) := known_atT ha hsz hlen hl 21 (by decide) (hd ⟨21, .data⟩ (by simp) rfl)
          refine wp_value (w' := w') (v := .bool true) (by simp [execOp, ev, go_sem]) ?_
          exact ⟨l, (.bool true), by rw [ha]; exact putT_again _ _ _ _, hlen, fun j hj h => hl j hj (h.resolve_left (by omega)), fun _ => rfl, hB⟩
        | i + 23, ho => simp at ho
      case done =>
        rintro D a w' ⟨l, vt, ha, hlen, hl, hvt, hB⟩ hall
        obtain rfl := hvt (hall 22 (by decide))
        obtain ⟨v0, v1, v2, v3, v4, v5, v6, v7, v8, v9, v10, v11, v12, v13, v14, v15, v16, v17, v18, v19, v20, v21, rfl⟩ := shpkV_list hlen
        subst hA
        have hfr : a = _ := ha
        rw [hfr]
        clear hfr ha
        simp only [putAll, Act.put, List.setIfInBounds_toArray, List.set_cons_zero, List.set_cons_succ, List.take_succ_cons, List.take_zero, List.drop_succ_cons, List.drop_zero, List.cons_append, List.nil_append, List.length_cons, List.length_nil]
        clear hl hlen hall
        go_wp2
        go_ret
        exact ⟨rfl, B1.trans (hB.mono B1.size)⟩
end Go.Proofs.YtncfmhlikmibaaaGreatDoor
