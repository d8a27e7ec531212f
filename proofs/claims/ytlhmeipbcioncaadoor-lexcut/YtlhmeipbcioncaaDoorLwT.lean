/- LexTwo: the law's walk. -/
import Derived.Test.YtlhmeipbcioncaaDoorLwP
import Derived.Test.YtlhmeipbcioncaaDoorLexL
namespace Go.Proofs.YtlhmeipbcioncaaDoor
open Go.RowKit
set_option maxRecDepth 100000
theorem rdp_more {ss : List Int} {e : Ending} {w' : World} (h : RdP ss e w') (hl : ss.length ≤ 4096) : (∃ p : Nat, lexR rdB0 0 ss = .error p ∧ e = .returned (.tuple #[.slice none 0 0, .int .i64 p, .int .i64 20])) ∨ (∃ ts a cap, e = .returned (.tuple #[.slice a ts.length cap, .int .i64 0, .int .i64 0]) ∧ IsT w' a ts.length cap ts ∧ lexR rdB0 0 ss = .ok ts) := by
  unfold RdP at h
  rw [if_neg (by omega)] at h
  cases ho : lexR rdB0 0 ss with
  | error p => rw [ho] at h; exact .inl ⟨p, rfl, h⟩
  | ok ts =>
    rw [ho] at h
    obtain ⟨a, cap, he, hT⟩ := h
    exact .inr ⟨ts, a, cap, he, hT, rfl⟩
theorem lit32 : (⟨#[32]⟩ : ByteArray) = strOfNums [32] := rfl
theorem lex_err (rd : List Int → Bool) (ss : List Int) (n : Nat) : ∀ (p q : Nat), ss.length - p ≤ n → p ≤ ss.length → lexR rd p (ss.drop p) = .error q → q ≤ ss.length := by
  induction n with
  | zero =>
    intro p q hn hp h
    have e : p = ss.length := by omega
    subst e
    rw [List.drop_length, lexR_nil] at h
    cases h
  | succ n ih =>
    intro p q hn hp h
    rcases lex_cases rd ss p hp with ⟨e, h1⟩ | ⟨hlt, hb, h1⟩ | ⟨hlt, h34, j, hi, hj, h1⟩ | ⟨hlt, hb, h34, k, t, m, hw, hm, hml, hk, hk2, h1⟩ | ⟨hlt, h1⟩
    · rw [h1] at h; cases h
    · rw [h1] at h; exact ih (p + 1) q (by omega) (by omega) h
    · rw [h1] at h; exact ih (p + j + 2) q (by omega) (by omega) h
    · rw [h1] at h
      cases hl : lexR rd (p + m) (ss.drop (p + m)) with
      | error z =>
        rw [hl] at h
        cases h
        exact ih (p + m) _ (by omega) (by omega) hl
      | ok l => rw [hl] at h; cases h
    · rw [h1] at h; cases h; omega
/-- A word that stands further on. -/
def moved (d : Nat) (t : Tk) : Tk := ⟨t.kind, t.text, t.pos + d⟩
theorem two_at (la lb : List Tk) (d q : Nat) : (la.dropLast ++ lb.map (moved d)).getD q tk0 = if q < la.length - 1 then la.getD q tk0 else if q < la.length - 1 + lb.length then moved d (lb.getD (q - (la.length - 1)) tk0) else tk0 := by
  simp only [List.getD_eq_getElem?_getD]
  split
  · rename_i h
    rw [List.getElem?_append_left (by rw [List.length_dropLast]; exact h), List.getElem?_dropLast, if_pos h]
  · rename_i h
    rw [List.getElem?_append_right (by rw [List.length_dropLast]; omega), List.length_dropLast, List.getElem?_map]
    split
    · rename_i h2
      have : q - (la.length - 1) < lb.length := by omega
      rw [List.getElem?_eq_getElem this]
      rfl
    · rename_i h2
      rw [List.getElem?_eq_none (by omega)]
      rfl
set_option maxHeartbeats 16000000 in
theorem two_law (aa bb : List Int) (w : World) (ha : ∀ x ∈ aa, 0 ≤ x ∧ x < 256) (hb : ∀ x ∈ bb, 0 ≤ x ∧ x < 256) (hma : aa.length ≤ 9223372036854775807) (hmb : bb.length ≤ 9223372036854775807) : Calls Tryd.prog 6 #[.string (strOfNums aa), .string (strOfNums bb)] w fun e w' => e = .returned (.bool true) ∧ Below w.heap.size w w' := by
  have hsa : (strOfNums aa).size = aa.length := strOfNums_size aa
  have hsb : (strOfNums bb).size = bb.length := strOfNums_size bb
  have mixed : Tryd.prog.follows .mixedOrders = true := by kernel_rfl
  go_enter Tryd.func6, Tryd.ntmps6
  go_wp2_with fail
  refine (read_lex aa w ha hma).mono ?_
  rintro e w1 ⟨hRa, hB⟩
  rcases rdp_cases hRa with ⟨p, er, rfl, her⟩ | ⟨la, xa, ca, rfl, hTa, hla, hl⟩
  · have her' : (er != 0) = true := by rcases her with rfl | rfl <;> rfl
    clear hRa her
    go_wp2_with fail
    refine (read_lex bb w1 hb hmb).mono ?_
    rintro e w2 ⟨hRb, hB2⟩
    replace hB := below_size hB (Nat.le_refl _) hB2
    clear hB2
    rcases rdp_cases hRb with ⟨p2, er2, rfl, her2⟩ | ⟨lb, xb, cb, rfl, hTb, hlb, hl2⟩
    · clear hRb
      go_wp2_with fail
      refine (known_true _).mono ?_
      rintro e w9 ⟨rfl, hB9⟩
      go_wp2
      go_ret
      exact ⟨rfl, below_size hB (Nat.le_refl _) hB9⟩
    · clear hRb
      go_wp2_with fail
      refine (known_true _).mono ?_
      rintro e w9 ⟨rfl, hB9⟩
      go_wp2
      go_ret
      exact ⟨rfl, below_size hB (Nat.le_refl _) hB9⟩
  · clear hRa
    have hPa := placed rdB0 aa aa.length 0 la (by omega) (Nat.zero_le _) (by rw [List.drop_zero]; exact hla)
    have hna := hPa.pos
    have hna2 := hPa.len
    have hws : IntKind.i64.wrap (4096 - (aa.length : Int)) = 4096 - (aa.length : Int) := by rw [IntKind.wrap_i64]; omega
    go_wp2_with fail
    refine (read_lex bb w1 hb hmb).mono ?_
    rintro e w2 ⟨hRb, hB2⟩
    replace hTa := hTa.below hB2
    replace hB := below_size hB (Nat.le_refl _) hB2
    clear hB2
    by_cases hbig : (bb.length : Int) ≥ 4096 - (aa.length : Int)
    · have hbg : 4096 - (aa.length : Int) ≤ (bb.length : Int) := hbig
      rcases rdp_cases hRb with ⟨p2, er2, rfl, her2⟩ | ⟨lb, xb, cb, rfl, hTb, hlb, hl2⟩
      · clear hRb hbig
        go_wp2_with fail
        refine (known_true _).mono ?_
        rintro e w9 ⟨rfl, hB9⟩
        go_wp2
        go_ret
        exact ⟨rfl, below_size hB (Nat.le_refl _) hB9⟩
      · clear hRb hbig
        go_wp2_with fail
        refine (known_true _).mono ?_
        rintro e w9 ⟨rfl, hB9⟩
        go_wp2
        go_ret
        exact ⟨rfl, below_size hB (Nat.le_refl _) hB9⟩
    · have hbg : ¬ 4096 - (aa.length : Int) ≤ (bb.length : Int) := hbig
      have hlb4 : bb.length ≤ 4096 := by omega
      have hlt4 : aa.length + 1 + bb.length ≤ 4096 := by omega
      have e1 := app_str aa [32]
      have e2 := app_str (aa ++ [32]) bb
      rw [← lit32] at e1
      have e3 : (aa ++ [32]) ++ bb = aa ++ 32 :: bb := by simp
      rw [e3] at e2
      have s1 : ¬ 9223372036854775807 < aa.length + 1 := by omega
      have s2 : ¬ 9223372036854775807 < (strOfNums (aa ++ [32])).size + bb.length := by rw [strOfNums_size]; simp; omega
      have hall : ∀ x ∈ aa ++ 32 :: bb, 0 ≤ x ∧ x < 256 := fun x h => by
        rcases List.mem_append.1 h with h | h
        · exact ha x h
        · rcases List.mem_cons.1 h with rfl | h
          · omega
          · exact hb x h
      have hlen : (aa ++ 32 :: bb).length = aa.length + 1 + bb.length := by simp; omega
      have hlex := lex_two rdB0 bb aa.length 0 aa la (Nat.le_refl _) hla
      have hsh := lexR_shift rdB0 (aa.length + 1) 0 bb
      rw [Nat.zero_add] at hsh
      rw [Nat.zero_add, hsh] at hlex
      clear hbig hsh e3
      obtain ⟨A, hA⟩ : ∃ A, Hid (aa.length = A) := ⟨_, rfl⟩
      rcases rdp_more hRb hlb4 with ⟨p2, hob, rfl⟩ | ⟨lb, xb, cb, rfl, hTb, hob⟩
      · rw [hob] at hlex
        have hp2 : p2 ≤ bb.length := lex_err rdB0 bb bb.length 0 p2 (by omega) (Nat.zero_le _) (by rw [List.drop_zero]; exact hob)
        clear hRb
        generalize strOfNums (aa ++ [32]) = S1 at *
        go_wp2_with fail
        refine (read_lex (aa ++ 32 :: bb) w2 hall (by omega)).mono ?_
        rintro e w3 ⟨hR, hB3⟩
        replace hB := below_size hB (Nat.le_refl _) hB3
        clear hB3
        rcases rdp_more hR (by omega) with ⟨p3, ho, rfl⟩ | ⟨l, x, c, rfl, hT, ho⟩
        · rw [ho] at hlex
          have hp3 : p3 = p2 + (aa.length + 1) := by cases hlex; rfl
          subst hp3
          have hw1 : IntKind.i64.wrap ((p2 : Int) + (aa.length : Int)) = (p2 : Int) + (aa.length : Int) := by rw [IntKind.wrap_i64]; omega
          have hw2 : IntKind.i64.wrap ((p2 : Int) + (aa.length : Int) + 1) = ((p2 + (aa.length + 1) : Nat) : Int) := by rw [IntKind.wrap_i64]; omega
          clear hR hlex ho
          generalize ((p2 + (aa.length + 1) : Nat) : Int) = P at *
          go_wp2_with fail
          refine (known_true _).mono ?_
          rintro e w9 ⟨rfl, hB9⟩
          go_wp2
          go_ret
          exact ⟨rfl, below_size hB (Nat.le_refl _) hB9⟩
        · rw [ho] at hlex; cases hlex
      · rw [hob] at hlex
        have hPb := placed rdB0 bb bb.length 0 lb (by omega) (Nat.zero_le _) (by rw [List.drop_zero]; exact hob)
        have hnb := hPb.pos
        have hnb2 := hPb.len
        have hatb := hPb.at_ tk0
        clear hRb
        generalize strOfNums (aa ++ [32]) = S1 at *
        go_wp2_with fail
        refine (read_lex (aa ++ 32 :: bb) w2 hall (by omega)).mono ?_
        rintro e w3 ⟨hR, hB3⟩
        replace hTa := hTa.below hB3
        replace hTb := hTb.below hB3
        replace hB := below_size hB (Nat.le_refl _) hB3
        clear hB3
        rcases rdp_more hR (by omega) with ⟨p3, ho, rfl⟩ | ⟨l, x, c, rfl, hT, ho⟩
        · rw [ho] at hlex; cases hlex
        · rw [ho] at hlex
          have hll : l = la.dropLast ++ lb.map (moved (aa.length + 1)) := by cases hlex; rfl
          have hln : l.length = la.length - 1 + lb.length := by rw [hll, List.length_append, List.length_dropLast, List.length_map]
          have hat := two_at la lb (aa.length + 1)
          rw [← hll] at hat
          clear hR hlex ho hll hPa hPb hla hob
          have hn1 : IntKind.i64.wrap ((la.length : Int) - 1) = (la.length : Int) - 1 := by rw [IntKind.wrap_i64]; omega
          have hn2 : IntKind.i64.wrap ((la.length : Int) - 1 + (lb.length : Int)) = (l.length : Int) := by
            have e : (la.length : Int) - 1 + (lb.length : Int) = (l.length : Int) := by omega
            rw [e, IntKind.wrap_i64]
            omega
          have hn0 : ((la.length : Int) == 0) = false := beq_eq_false_iff_ne.2 (by omega)
          have hne : ((l.length : Int) != (l.length : Int)) = false := by simp
          obtain ⟨n1, h1⟩ : ∃ n, Hid (la.length = n) := ⟨_, rfl⟩
          obtain ⟨n2, h2⟩ : ∃ n, Hid (lb.length = n) := ⟨_, rfl⟩
          obtain ⟨n3, h3⟩ : ∃ n, Hid (l.length = n) := ⟨_, rfl⟩
          rw [h1.out] at hTa hna hna2 hn1 hn2 hn0 hln hat ⊢
          rw [h2.out] at hTb hnb hnb2 hn2 hln hatb hat ⊢
          rw [h3.out] at hT hn2 hln hne ⊢
          have hln1 : n3 ≤ n1 - 1 + n2 := by omega
          have hln2 : n1 - 1 + n2 ≤ n3 := by omega
          clear hln
          go_wp2
          go_loopw [14] (fun y wr => ∃ q : Nat, y = .int .i64 q ∧ q ≤ n3 ∧ Below w3.heap.size w3 wr) (fun y _ => n3 - (intOf y).toNat)
          case atStart => exact ⟨0, rfl, Nat.zero_le _, Below.refl _ _⟩
          case round =>
            obtain ⟨q, rfl, hq, hBr⟩ := hrel
            by_cases hlt : q < n3
            · have hltI : (q : Int) < (n3 : Int) := by omega
              have hwq : IntKind.i64.wrap ((q : Int) + 1) = (q : Int) + 1 := by rw [IntKind.wrap_i64]; omega
              obtain ⟨g3, o3, rfl, hc3⟩ := (hT.below hBr).cells (by omega)
              obtain ⟨c0, c1, c2⟩ := hc3 q hlt
              rw [hat q] at c0 c1 c2
              by_cases hq1 : q < n1 - 1
              · have hq1I : (q : Int) < (n1 : Int) - 1 := by omega
                have hq2I : (q : Int) < (n1 : Int) := by omega
                rw [if_pos hq1] at c0 c1 c2
                obtain ⟨g1, o1, rfl, hc1⟩ := (hTa.below hBr).cells (by omega)
                obtain ⟨d0, d1, d2⟩ := hc1 q (by omega)
                generalize la.getD q tk0 = t at *
                obtain ⟨kd, tx, ps⟩ := t
                simp only at c0 c1 c2 d0 d1 d2
                have f0 := fun o => ((boxT (w := wr) (o := o)).cell (ltC d0)).trans d0
                have f1 := fun o => ((boxT (w := wr) (o := o)).cell (ltC d1)).trans d1
                have f2 := fun o => ((boxT (w := wr) (o := o)).cell (ltC d2)).trans d2
                clear hc1 hc3 hat hT hTa hTb hatb
                go_upto_region 18 with fail
                have E1 : (wr.alloc (.cells #[.int .i64 kd, .string (strOfNums tx), .int .i64 (ps : Int)] 35)).heap[wr.heap.size]? = some (tkB kd (strOfNums tx) ps) := newT _ _
                have B1 := below_size hBr (Nat.le_refl _) (boxT (w := wr) (o := .cells #[.int .i64 kd, .string (strOfNums tx), .int .i64 (ps : Int)] 35))
                have bx := boxT (w := wr) (o := .cells #[.int .i64 kd, .string (strOfNums tx), .int .i64 (ps : Int)] 35)
                replace c0 := (bx.cell (ltC c0)).trans c0
                replace c1 := (bx.cell (ltC c1)).trans c1
                replace c2 := (bx.cell (ltC c2)).trans c2
                clear d0 d1 d2 bx f0 f1 f2
                generalize wr.alloc (.cells #[.int .i64 kd, .string (strOfNums tx), .int .i64 (ps : Int)] 35) = w4 at *
                generalize wr.heap.size = tb at *
                obtain ⟨z0, z1, z2, zf⟩ := tk_cells E1
                go_wp2
                go_region_o
                all_goals go_wp2
                all_goals go_roundw
                all_goals first | exact ⟨q + 1, by go_num, hlt, B1.drew⟩ | (simp [intOf]; omega)
              · have hq1I : ¬ (q : Int) < (n1 : Int) - 1 := by omega
                rw [if_neg hq1, if_pos (by omega)] at c0 c1 c2
                obtain ⟨g2, o2, rfl, hc2⟩ := (hTb.below hBr).cells (by omega)
                obtain ⟨j, hj⟩ : ∃ j, Hid (q - (n1 - 1) = j) := ⟨_, rfl⟩
                have hj2 : j < n2 := by have := hj.out; omega
                have hwj : IntKind.i64.wrap ((q : Int) - ((n1 : Int) - 1)) = (j : Int) := by have := hj.out; rw [IntKind.wrap_i64]; omega
                have hjI : (j : Int) < (n2 : Int) := by omega
                rw [hj.out] at c0 c1 c2
                obtain ⟨d0, d1, d2⟩ := hc2 j hj2
                have hpb := (hatb j hj2).2.1
                unfold moved at c0 c1 c2
                generalize lb.getD j tk0 = t at *
                obtain ⟨kd, tx, ps⟩ := t
                simp only at c0 c1 c2 d0 d1 d2 hpb
                have f0 := fun o => ((boxT (w := wr) (o := o)).cell (ltC d0)).trans d0
                have f1 := fun o => ((boxT (w := wr) (o := o)).cell (ltC d1)).trans d1
                have f2 := fun o => ((boxT (w := wr) (o := o)).cell (ltC d2)).trans d2
                have hp1 : IntKind.i64.wrap ((ps : Int) + (aa.length : Int)) = (ps : Int) + (aa.length : Int) := by rw [IntKind.wrap_i64]; omega
                have hp2 : IntKind.i64.wrap ((ps : Int) + (aa.length : Int) + 1) = ((ps + (aa.length + 1) : Nat) : Int) := by rw [IntKind.wrap_i64]; omega
                clear hc2 hc3 hat hT hTa hTb hatb hj
                generalize ((ps + (aa.length + 1) : Nat) : Int) = P at *
                go_upto_region 18 with fail
                have E1 : (wr.alloc (.cells #[.int .i64 kd, .string (strOfNums tx), .int .i64 P] 35)).heap[wr.heap.size]? = some (tkB kd (strOfNums tx) P) := newT _ _
                have B1 := below_size hBr (Nat.le_refl _) (boxT (w := wr) (o := .cells #[.int .i64 kd, .string (strOfNums tx), .int .i64 P] 35))
                have bx := boxT (w := wr) (o := .cells #[.int .i64 kd, .string (strOfNums tx), .int .i64 P] 35)
                replace c0 := (bx.cell (ltC c0)).trans c0
                replace c1 := (bx.cell (ltC c1)).trans c1
                replace c2 := (bx.cell (ltC c2)).trans c2
                clear d0 d1 d2 bx f0 f1 f2
                generalize wr.alloc (.cells #[.int .i64 kd, .string (strOfNums tx), .int .i64 P] 35) = w4 at *
                generalize wr.heap.size = tb at *
                obtain ⟨z0, z1, z2, zf⟩ := tk_cells E1
                go_wp2
                go_region_o
                all_goals go_wp2
                all_goals go_roundw
                all_goals first | exact ⟨q + 1, by go_num, hlt, B1.drew⟩ | (simp [intOf]; omega)
            · have hltI : ¬ (q : Int) < (n3 : Int) := by omega
              replace hB := below_size hB (Nat.le_refl _) hBr
              go_wp2_with fail
              refine (known_true _).mono ?_
              rintro e w9 ⟨rfl, hB9⟩
              go_wp2
              go_ret
              exact ⟨rfl, below_size hB (Nat.le_refl _) hB9⟩
end Go.Proofs.YtlhmeipbcioncaaDoor
