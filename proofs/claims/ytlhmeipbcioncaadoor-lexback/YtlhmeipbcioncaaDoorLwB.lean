/- LexBack: the law's walk. -/
import Derived.Test.YtlhmeipbcioncaaDoorLwP
import Derived.Test.YtlhmeipbcioncaaDoorPln
import Derived.Lib.AppendStr
namespace Go.Proofs.YtlhmeipbcioncaaDoor
open Go.RowKit
set_option maxRecDepth 100000
theorem rdp_moreB {ss : List Int} {e : Ending} {w' : World} (h : RdP ss e w') (hl : ss.length ≤ 4096) : (∃ p : Nat, lexR rdB0 0 ss = .error p ∧ e = .returned (.tuple #[.slice none 0 0, .int .i64 p, .int .i64 20])) ∨ (∃ ts a cap, e = .returned (.tuple #[.slice a ts.length cap, .int .i64 0, .int .i64 0]) ∧ IsT w' a ts.length cap ts ∧ lexR rdB0 0 ss = .ok ts) := by
  unfold RdP at h
  rw [if_neg (by omega)] at h
  cases ho : lexR rdB0 0 ss with
  | error p => rw [ho] at h; exact .inl ⟨p, rfl, h⟩
  | ok ts =>
    rw [ho] at h
    obtain ⟨a, cap, he, hT⟩ := h
    exact .inr ⟨ts, a, cap, he, hT, rfl⟩
theorem qtR_mem (m : Nat) : ∀ {r t : List Int} {n : Nat}, r.length ≤ m → qtR r = some (t, n) → ∀ x ∈ t, x ∈ r := by
  induction m with
  | zero =>
    intro r t n hm h
    obtain rfl : r = [] := List.eq_nil_of_length_eq_zero (by omega)
    cases h
  | succ m ih =>
    intro r t n hm h x hx
    cases r with
    | nil => cases h
    | cons c r =>
      rw [List.length_cons] at hm
      rw [qtR_cons] at h
      split at h
      · rename_i hc
        cases r with
        | nil => cases h; cases hx
        | cons d q =>
          rw [List.length_cons] at hm
          simp only at h
          split at h
          · obtain ⟨z, hz, he⟩ := Option.map_eq_some_iff.1 h
            cases he
            rcases List.mem_cons.1 hx with rfl | hx
            · rw [hc]; exact List.mem_cons_self
            · exact List.mem_cons_of_mem _ (List.mem_cons_of_mem _ (ih (n := z.2) (by omega) hz x hx))
          · cases h; cases hx
      · obtain ⟨z, hz, he⟩ := Option.map_eq_some_iff.1 h
        cases he
        rcases List.mem_cons.1 hx with rfl | hx
        · exact List.mem_cons_self
        · exact List.mem_cons_of_mem _ (ih (n := z.2) (by omega) hz x hx)
theorem qtW_mem {r t : List Int} {n : Nat} (h : qtW r = some (t, n)) : ∀ x ∈ t, x ∈ r := by
  unfold qtW at h
  split at h
  · cases h
  · rename_i hq
    split at h
    · cases h
      intro x hx
      exact List.mem_of_mem_drop (qtR_mem _ (Nat.le_refl _) hq x hx)
    · cases h
theorem word_mem {rd : List Int → Bool} {r t : List Int} {k : Int} {n : Nat} (h : word rd r = some (k, t, n)) : ∀ x ∈ t, x ∈ r := by
  by_cases h5 : k ≠ 5 ∧ k ≠ 6
  · rw [word_text h h5.1 h5.2]
    intro x hx
    exact List.mem_of_mem_take hx
  · unfold word at h
    simp only at h
    split at h
    · split at h <;> (cases h; omega)
    · split at h
      · split at h
        · cases h; omega
        · cases h
      · split at h
        · obtain ⟨x, hx, he⟩ := Option.map_eq_some_iff.1 h
          cases he
          exact qtW_mem (n := x.2) hx
        · split at h
          · split at h
            · cases h; omega
            · split at h
              · obtain ⟨x, hx, he⟩ := Option.map_eq_some_iff.1 h
                cases he
                exact fun y hy => List.mem_of_mem_drop (qtW_mem (n := x.2) hx y hy)
              · split at h
                · cases h
                · cases h
                  exact fun y hy => List.mem_of_mem_drop (List.mem_of_mem_take hy)
          · split at h
            · cases h; omega
            · split at h
              · split at h <;> (cases h; omega)
              · obtain ⟨x, hx, he⟩ := Option.map_eq_some_iff.1 h
                simp only [Prod.mk.injEq] at he
                omega
theorem texts_of (rd : List Int → Bool) (ss : List Int) (n : Nat) : ∀ (p : Nat) (ts : List Tk), ss.length - p ≤ n → p ≤ ss.length → lexR rd p (ss.drop p) = .ok ts → ∀ t ∈ ts, (∀ x ∈ t.text, x ∈ ss) ∧ t.text.length ≤ ss.length + 1024 := by
  induction n with
  | zero =>
    intro p ts hn hp h t ht
    have e : p = ss.length := by omega
    subst e
    rw [List.drop_length, lexR_nil] at h
    cases h
    obtain rfl := List.mem_singleton.1 ht
    exact ⟨fun x hx => absurd hx List.not_mem_nil, Nat.zero_le _⟩
  | succ n ih =>
    intro p ts hn hp h t ht
    rcases lex_cases rd ss p hp with ⟨e, h1⟩ | ⟨hlt, hb, h1⟩ | ⟨hlt, h34, j, hi, hj, h1⟩ | ⟨hlt, hb, h34, k, u, m, hw, hm, hml, hk, hk2, h1⟩ | ⟨hlt, h1⟩
    · rw [h1] at h
      cases h
      obtain rfl := List.mem_singleton.1 ht
      exact ⟨fun x hx => absurd hx List.not_mem_nil, Nat.zero_le _⟩
    · rw [h1] at h; exact ih (p + 1) ts (by omega) (by omega) h t ht
    · rw [h1] at h; exact ih (p + j + 2) ts (by omega) (by omega) h t ht
    · rw [h1] at h
      cases hl : lexR rd (p + m) (ss.drop (p + m)) with
      | error z => rw [hl] at h; cases h
      | ok l =>
        rw [hl] at h
        cases h
        rcases List.mem_cons.1 ht with rfl | ht
        · refine ⟨fun x hx => List.mem_of_mem_drop (word_mem hw x hx), ?_⟩
          show u.length ≤ _
          by_cases h5 : k = 5 ∨ k = 6
          · have := word_short hw h5; omega
          · rw [word_text hw (fun e => h5 (.inl e)) (fun e => h5 (.inr e)), List.length_take, List.length_drop]; omega
        · exact ih (p + m) l (by omega) (by omega) hl t ht
    · rw [h1] at h; cases h
theorem app_text {ops : Array Oper} {rest : List Oper} {o : Oper} {a : Act} {Q : Exit → Act → World → Prop} (w : World) (hgd : o.guard = none) (s x : Operand)
    (ho : o.op = .call { callee := .builtin .append, args := #[s, x], argTypes := #[36, 9] })
    (base : Nat) (v : Value) (n : Nat) (xs : List Int) (hs : a.eval s = v) (hown : w.ownsRow base 5 1 v n (xs.map (Value.int .u8)))
    (ys : List Int) (hx : a.eval x = .string (strOfNums ys)) (hy : ∀ y ∈ ys, 0 ≤ y ∧ y < 256) (h47 : n + ys.length ≤ 140737488355328) (hbase : base ≤ w.heap.size)
    (h : ∀ v' w', w'.ownsRow base 5 1 v' (n + ys.length) ((xs ++ ys).map (Value.int .u8)) → Below base w w' → wpList Tryd.prog ops Q rest (a.put o.dst v') w') : wpList Tryd.prog ops Q (o :: rest) a w := by
  obtain ⟨i0, hi, hz0, hz1, hz2⟩ := info_parts Tryd.info5
  have hsz : (strOfNums ys).size = ys.length := strOfNums_size ys
  refine Lib.wpList_append_own_string w hgd s x 36 9 ho base 5 i0 Tryd.underlying36 Tryd.underlying9 hi hz0 hz1 hz2 v n _ hs hown (strOfNums ys) hx (by unfold maxLen; omega) (by omega) hbase ?_
  intro v' w' hown' hgrow _
  rw [strCells_nums ys hy, ← List.map_append, hsz] at hown'
  exact h v' w' hown' ((Below.refl _ _).grown hgrow hbase (fun j hj => (hown.lt j hj).1))
theorem one_isC (w : World) (c : Int) (hc : 0 ≤ c ∧ c < 256) : IsB (w.alloc (.cells #[.int .u8 c] 5)) (some ⟨w.heap.size, 0, none⟩) 1 1 [c] :=
  isB_lit w #[.int .u8 c] [c] 1 rfl (by decide) rfl (fun x hx => by rw [List.mem_singleton.1 hx]; exact hc) (0, 0)
theorem flat_step {ts : List Tk} {i : Nat} (h : i < ts.length) : flatW (ts.take (i + 1)) = (flatW (ts.take i) ++ writ (ts.getD i tk0).kind (ts.getD i tk0).text) ++ [32] := by
  unfold flatW
  rw [List.take_add_one, List.getElem?_eq_getElem h, List.flatMap_append]
  simp [List.getD_eq_getElem?_getD, List.getElem?_eq_getElem h]
theorem kt_at {l l' : List Tk} (h : l'.map kt = l.map kt) (q : Nat) (hq : q < l.length) : (l'.getD q tk0).kind = (l.getD q tk0).kind ∧ (l'.getD q tk0).text = (l.getD q tk0).text := by
  have hl : l'.length = l.length := by simpa using congrArg List.length h
  have := congrArg (fun z => z[q]?) h
  simp only [List.getElem?_map, List.getElem?_eq_getElem hq, List.getElem?_eq_getElem (hl ▸ hq : q < l'.length), Option.map_some, Option.some.injEq, kt, Prod.mk.injEq] at this
  simp only [List.getD_eq_getElem?_getD, List.getElem?_eq_getElem hq, List.getElem?_eq_getElem (hl ▸ hq : q < l'.length), Option.getD_some]
  exact this
set_option maxHeartbeats 16000000 in
theorem back_law (ss : List Int) (w : World) (hb : ∀ x ∈ ss, 0 ≤ x ∧ x < 256) (hm : ss.length ≤ 9223372036854775807) : Calls Tryd.prog 5 #[.string (strOfNums ss)] w fun e w' => e = .returned (.bool true) ∧ Below w.heap.size w w' := by
  have mixed : Tryd.prog.follows .mixedOrders = true := by kernel_rfl
  go_enter Tryd.func5, Tryd.ntmps5
  go_wp2_with fail
  refine (read_lex ss w hb hm).mono ?_
  rintro e w1 ⟨hR, hB⟩
  rcases rdp_cases hR with ⟨p, er, rfl, her⟩ | ⟨ts, a, cap, rfl, hT, hlex, hl⟩
  · have her' : (er != 0) = true := by rcases her with rfl | rfl <;> rfl
    clear hR her
    go_wp2_with fail
    refine (known_true _).mono ?_
    rintro e w2 ⟨rfl, hB2⟩
    go_wp2
    go_ret
    exact ⟨rfl, below_size hB (Nat.le_refl _) hB2⟩
  · have hP := placed rdB0 ss ss.length 0 ts (by omega) (Nat.zero_le _) (by rw [List.drop_zero]; exact hlex)
    have hPl := hP.len
    have hWl := wl_of rdB0 ss ss.length 0 ts (by omega) (Nat.zero_le _) (by rw [List.drop_zero]; exact hlex)
    have hTx := texts_of rdB0 ss ss.length 0 ts (by omega) (Nat.zero_le _) (by rw [List.drop_zero]; exact hlex)
    clear hR hlex hP
    obtain ⟨n, hn⟩ : ∃ n, Hid (ts.length = n) := ⟨_, rfl⟩
    rw [hn.out] at hT hPl ⊢
    go_wp2
    go_loopw [6, 7] (fun v x wr => ∃ (i : Nat) (acc : List Int), x = .int .i64 i ∧ i ≤ n ∧ Hid (acc = flatW (ts.take i)) ∧ acc.length ≤ 30000 ∧ (∀ x ∈ acc, 0 ≤ x ∧ x < 256) ∧ OwnB wr w1.heap.size v acc ∧ Below w1.heap.size w1 wr) (fun _ x _ => n - (intOf x).toNat)
    case atStart =>
      exact ⟨0, [], rfl, Nat.zero_le _, rfl, Nat.zero_le _, fun x hx => absurd hx List.not_mem_nil, ownB_of (World.ownsRow_nil _ _ _ _) (fun x hx => absurd hx List.not_mem_nil), Below.refl _ _⟩
    case round =>
      obtain ⟨i, acc, rfl, hi, hacc, hal, hab, ⟨hown, va, vc, rfl, hIB⟩, hBr⟩ := hrel
      have hw1 : IntKind.i64.wrap ((i : Int) + 1) = (i : Int) + 1 := by rw [IntKind.wrap_i64]; omega
      by_cases hlt : i < n
      · have hltI : (i : Int) < (n : Int) := by omega
        by_cases hle : acc.length ≤ 4096
        · have hleI : (acc.length : Int) ≤ 4096 := by omega
          obtain ⟨g, off, rfl, hc⟩ := (hT.below hBr).cells (by omega)
          obtain ⟨c0, c1, c2⟩ := hc i hlt
          have hmem : ts.getD i tk0 ∈ ts := by rw [List.getD_eq_getElem?_getD, List.getElem?_eq_getElem (by rw [hn.out]; exact hlt)]; exact List.getElem_mem _
          obtain ⟨ht1, ht2⟩ := hTx _ hmem
          have hst := flat_step (ts := ts) (i := i) (by rw [hn.out]; exact hlt)
          rw [← hacc.out] at hst
          generalize ts.getD i tk0 = t at *
          obtain ⟨kd, tx, ps⟩ := t
          simp only at c0 c1 c2 ht1 ht2 hst
          have hwb := writ_bytes (k := kd) (t := tx) (fun x hx => hb x (ht1 x hx))
          have hwl := writ_len kd tx
          have hcall := fun w => written_is kd tx (ps : Int) w (fun x hx => hb x (ht1 x hx)) (by omega)
          have hst' : Hid ((acc ++ writ kd tx) ++ [32] = flatW (ts.take (i + 1))) := hst.symm
          generalize writ kd tx = wt at *
          clear hc hTx hWl hst hacc hmem ht1 hT hIB
          have hs1 := hBr.size
          go_upto_region 9 with (first | (go_at_call 20; refine (hcall _).mono ?_; rintro e w3 ⟨rfl, hB3⟩; have hs3 := hB3.size) | (at_builtin; refine app_text _ rfl _ _ rfl w1.heap.size _ acc.length acc rfl ?o1 wt rfl hwb ?o3 ?o4 ?_))
          case o1 => exact own_below hown hB3
          case o3 => omega
          case o4 => omega
          intro v' w4 hown4 hB4
          rw [← List.map_append] at hown4
          have hab2 := append_bytes acc wt hab hwb
          obtain ⟨hown5, va2, vc2, rfl, _⟩ := ownB_of hown4 hab2
          have hBr4 := (below_size hBr (Nat.le_refl _) hB3).trans hB4
          have hs4 := hBr4.size
          have hal2 : (acc ++ wt).length ≤ 20000 := by rw [List.length_append]; omega
          clear hown4 hown hB3 hB4 hBr c0 c1 c2 hcall
          generalize acc ++ wt = ac2 at *
          go_wp2_with (at_builtin; refine app_bytes _ rfl _ _ rfl w1.heap.size _ ac2.length ac2 rfl ?o1 _ _ _ [32] rfl ?o2 ?o3 ?o4 ?o5 ?_)
          case o1 => exact own_below hown5 boxT
          case o2 => exact one_isC _ 32 (by decide)
          case o3 => omega
          case o4 => omega
          case o5 => simp; omega
          intro v' w6 hown6 hB6
          have hO6 : OwnB w6 w1.heap.size v' (ac2 ++ [32]) := ownB_of (n := ac2.length + 1) (by simpa using hown6) (append_bytes ac2 [32] hab2 (by decide))
          go_wp2
          go_roundw
          case rel => exact ⟨i + 1, ac2 ++ [32], by go_num, by omega, hst', by simp; omega, append_bytes ac2 [32] hab2 (by decide), hO6, (below_size hBr4 (Nat.le_refl _) boxT).trans hB6⟩
          case measure => simp [intOf]; omega
        · have hleI : ¬ (acc.length : Int) ≤ 4096 := by omega
          have hleJ : (4096 : Int) < (acc.length : Int) := by omega
          replace hB := below_size hB (Nat.le_refl _) hBr
          go_wp2_with fail
          refine (known_true _).mono ?_
          rintro e w9 ⟨rfl, hB9⟩
          go_wp2
          go_ret
          exact ⟨rfl, below_size hB (Nat.le_refl _) hB9⟩
      · have hltI : ¬ (i : Int) < (n : Int) := by omega
        by_cases hle : acc.length ≤ 4096
        · have hleI : ¬ (4096 : Int) < (acc.length : Int) := by omega
          have hst := hIB.str
          have e1 : acc = flatW ts := by rw [hacc.out, List.take_of_length_le (by have := hn.out; omega)]
          obtain ⟨l, hlx, hkt⟩ := lex_back rdB0 ts 0 hWl
          rw [← e1] at hlx
          have hT2 := hT.below hBr
          replace hB := below_size hB (Nat.le_refl _) hBr
          clear e1 hacc hTx hWl hT hown hIB hBr
          go_wp2_with fail
          refine (read_lex acc wr hab (by omega)).mono ?_
          rintro e w3 ⟨hR, hB3⟩
          replace hT2 := hT2.below hB3
          replace hB := below_size hB (Nat.le_refl _) hB3
          clear hB3
          rcases rdp_moreB hR hle with ⟨p3, ho, rfl⟩ | ⟨l2, xb, cb, rfl, hTb, ho⟩
          · rw [ho] at hlx; cases hlx
          · obtain rfl : l2 = l := by rw [ho] at hlx; cases hlx; rfl
            have hln : l2.length = n := by rw [← hn.out]; simpa using congrArg List.length hkt
            have hat := fun q (hq : q < n) => kt_at hkt q (by rw [hn.out]; exact hq)
            rw [hln] at hTb ⊢
            have hne : ((n : Int) != (n : Int)) = false := by simp
            clear hR ho hlx hkt hln
            go_wp2
            go_loopw [11] (fun y wr => ∃ q : Nat, y = .int .i64 q ∧ q ≤ n ∧ Below w3.heap.size w3 wr) (fun y _ => n - (intOf y).toNat)
            case atStart => exact ⟨0, rfl, Nat.zero_le _, Below.refl _ _⟩
            case round =>
              obtain ⟨q, rfl, hq, hB4⟩ := hrel
              by_cases hlt : q < n
              · have hltI : (q : Int) < (n : Int) := by omega
                have hwq : IntKind.i64.wrap ((q : Int) + 1) = (q : Int) + 1 := by rw [IntKind.wrap_i64]; omega
                obtain ⟨g, off, rfl, hc⟩ := (hT2.below hB4).cells (by omega)
                obtain ⟨c0, c1, c2⟩ := hc q hlt
                obtain ⟨g', off', rfl, hc'⟩ := (hTb.below hB4).cells (by omega)
                obtain ⟨d0, d1, d2⟩ := hc' q hlt
                rw [(hat q hlt).1] at d0
                rw [(hat q hlt).2] at d1
                clear hc hc' hT2 hTb hat
                generalize ts.getD q tk0 = t at *
                go_wp2
                go_region_o
                all_goals go_wp2
                all_goals go_roundw
                all_goals first | exact ⟨q + 1, by go_num, by omega, hB4.drew⟩ | (simp [intOf]; omega)
              · have hltI : ¬ (q : Int) < (n : Int) := by omega
                replace hB := below_size hB (Nat.le_refl _) hB4
                go_wp2_with fail
                refine (known_true _).mono ?_
                rintro e w9 ⟨rfl, hB9⟩
                go_wp2
                go_ret
                exact ⟨rfl, below_size hB (Nat.le_refl _) hB9⟩
        · have hleJ : (4096 : Int) < (acc.length : Int) := by omega
          replace hB := below_size hB (Nat.le_refl _) hBr
          go_wp2_with fail
          refine (known_true _).mono ?_
          rintro e w9 ⟨rfl, hB9⟩
          go_wp2
          go_ret
          exact ⟨rfl, below_size hB (Nat.le_refl _) hB9⟩
end Go.Proofs.YtlhmeipbcioncaaDoor
