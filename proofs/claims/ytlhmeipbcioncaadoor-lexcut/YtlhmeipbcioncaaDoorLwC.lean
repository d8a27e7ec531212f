/- LexCut: the law's walk. -/
import Derived.Test.YtlhmeipbcioncaaDoorLwT
import Derived.Test.YtlhmeipbcioncaaDoorLexC
namespace Go.Proofs.YtlhmeipbcioncaaDoor
open Go.RowKit
set_option maxRecDepth 100000
set_option maxHeartbeats 16000000 in
theorem cut_law (ss : List Int) (k : Int) (w : World) (hb : ∀ x ∈ ss, 0 ≤ x ∧ x < 256) (hm : ss.length ≤ 9223372036854775807) : Calls Tryd.prog 7 #[.string (strOfNums ss), .int .i64 k] w fun e w' => e = .returned (.bool true) ∧ Below w.heap.size w w' := by
  have hsz : (strOfNums ss).size = ss.length := strOfNums_size ss
  have mixed : Tryd.prog.follows .mixedOrders = true := by kernel_rfl
  go_enter Tryd.func7, Tryd.ntmps7
  go_wp2_with fail
  refine (read_lex ss w hb hm).mono ?_
  rintro e w1 ⟨hR, hB⟩
  rcases rdp_cases hR with ⟨p, er, rfl, her⟩ | ⟨ts, a, cap, rfl, hT, hlex, hl⟩
  · have her' : (er != 0) = true := by rcases her with rfl | rfl <;> rfl
    clear hR her
    go_wp2_with fail
    refine (known_true _).mono ?_
    rintro e w9 ⟨rfl, hB9⟩
    go_wp2
    go_ret
    exact ⟨rfl, below_size hB (Nat.le_refl _) hB9⟩
  · have hP := placed rdB0 ss ss.length 0 ts (by omega) (Nat.zero_le _) (by rw [List.drop_zero]; exact hlex)
    have hPp := hP.pos
    have hPl := hP.len
    have hat := hP.at_ tk0
    clear hR hP
    obtain ⟨n, hn⟩ : ∃ n, Hid (ts.length = n) := ⟨_, rfl⟩
    rw [hn.out] at hT hPp hPl hat ⊢
    have hn0 : ((n : Int) == 0) = false := beq_eq_false_iff_ne.2 (by omega)
    by_cases hk0 : k < 0
    · skip
      obtain ⟨g, off, rfl, hc⟩ := hT.cells (by omega)
      obtain ⟨c0, c1, c2⟩ := hc 0 hPp
      have hcut := lex_cut rdB0 ss ss.length 0 ts 0 (by omega) (Nat.zero_le _) (by rw [List.drop_zero]; exact hlex) (by rw [hn.out]; exact hPp)
      rw [List.drop_zero, List.take_zero, List.nil_append] at hcut
      have hPK := (hat 0 hPp).2.1
      have hx := ext_str ss 0 (ts.getD 0 tk0).pos
      rw [List.drop_zero, Nat.sub_zero] at hx
      obtain ⟨P, hP⟩ : ∃ P, Hid ((ts.getD 0 tk0).pos = P) := ⟨_, rfl⟩
      rw [hP.out] at hcut hPK hx c2
      rw [show off + 0 * 3 + 2 = off + 2 by omega] at c2
      have j1 : ¬ (P : Int) < 0 := by omega
      have j2 : ¬ (ss.length : Int) < (P : Int) := by omega
      have j3 : (P : Int) ≤ (ss.length : Int) := by omega
      have hKI : (0 : Int) < (n : Int) := by omega
      have hub : ∀ x ∈ ss.take P, 0 ≤ x ∧ x < 256 := fun x h => hb x (List.mem_of_mem_take h)
      have hul : (ss.take P).length ≤ 4096 := by rw [List.length_take]; omega
      clear c0 c1 hc hlex hP
      go_wp2_with fail
      refine (read_lex (ss.take P) w1 hub (by omega)).mono ?_
      rintro e w2 ⟨hR, hB2⟩
      replace hB := below_size hB (Nat.le_refl _) hB2
      clear hB2 c2
      rcases rdp_more hR hul with ⟨p3, ho, rfl⟩ | ⟨l, x, c, rfl, hT2, ho⟩
      · rw [ho] at hcut; cases hcut
      · rw [ho] at hcut
        have hll : l = [⟨0, [], P⟩] := by cases hcut; rfl
        subst hll
        clear hR hcut ho hx hub hul
        have hl1 : ([⟨0, [], P⟩] : List Tk).length = 1 := rfl
        rw [hl1] at hT2 ⊢
        go_wp2
        go_loopw [11] (fun y wr => y = .int .i64 0 ∧ Below w2.heap.size w2 wr) (fun _ _ => 0)
        case atStart => exact ⟨rfl, Below.refl _ _⟩
        case round =>
          obtain ⟨rfl, hBr⟩ := hrel
          obtain ⟨g2, o2, rfl, hc2⟩ := (hT2.below hBr).cells (by omega)
          obtain ⟨d0, d1, d2⟩ := hc2 0 (by omega)
          replace d0 : _ = some (Value.int IntKind.i64 0) := d0
          rw [show o2 + 0 * 3 = o2 by omega] at d0
          replace hB := below_size hB (Nat.le_refl _) hBr
          clear hc2 hT hT2 hat d1 d2
          go_wp2_with fail
          refine (known_true _).mono ?_
          rintro e w9 ⟨rfl, hB9⟩
          go_wp2
          go_ret
          exact ⟨rfl, below_size hB (Nat.le_refl _) hB9⟩
    · by_cases hkn : (n : Int) ≤ k
      · skip
        obtain ⟨g, off, rfl, hc⟩ := hT.cells (by omega)
        obtain ⟨c0, c1, c2⟩ := hc 0 hPp
        have hcut := lex_cut rdB0 ss ss.length 0 ts 0 (by omega) (Nat.zero_le _) (by rw [List.drop_zero]; exact hlex) (by rw [hn.out]; exact hPp)
        rw [List.drop_zero, List.take_zero, List.nil_append] at hcut
        have hPK := (hat 0 hPp).2.1
        have hx := ext_str ss 0 (ts.getD 0 tk0).pos
        rw [List.drop_zero, Nat.sub_zero] at hx
        obtain ⟨P, hP⟩ : ∃ P, Hid ((ts.getD 0 tk0).pos = P) := ⟨_, rfl⟩
        rw [hP.out] at hcut hPK hx c2
        rw [show off + 0 * 3 + 2 = off + 2 by omega] at c2
        have j1 : ¬ (P : Int) < 0 := by omega
        have j2 : ¬ (ss.length : Int) < (P : Int) := by omega
        have j3 : (P : Int) ≤ (ss.length : Int) := by omega
        have hKI : (0 : Int) < (n : Int) := by omega
        have hub : ∀ x ∈ ss.take P, 0 ≤ x ∧ x < 256 := fun x h => hb x (List.mem_of_mem_take h)
        have hul : (ss.take P).length ≤ 4096 := by rw [List.length_take]; omega
        clear c0 c1 hc hlex hP
        go_wp2_with fail
        refine (read_lex (ss.take P) w1 hub (by omega)).mono ?_
        rintro e w2 ⟨hR, hB2⟩
        replace hB := below_size hB (Nat.le_refl _) hB2
        clear hB2 c2
        rcases rdp_more hR hul with ⟨p3, ho, rfl⟩ | ⟨l, x, c, rfl, hT2, ho⟩
        · rw [ho] at hcut; cases hcut
        · rw [ho] at hcut
          have hll : l = [⟨0, [], P⟩] := by cases hcut; rfl
          subst hll
          clear hR hcut ho hx hub hul
          have hl1 : ([⟨0, [], P⟩] : List Tk).length = 1 := rfl
          rw [hl1] at hT2 ⊢
          go_wp2
          go_loopw [11] (fun y wr => y = .int .i64 0 ∧ Below w2.heap.size w2 wr) (fun _ _ => 0)
          case atStart => exact ⟨rfl, Below.refl _ _⟩
          case round =>
            obtain ⟨rfl, hBr⟩ := hrel
            obtain ⟨g2, o2, rfl, hc2⟩ := (hT2.below hBr).cells (by omega)
            obtain ⟨d0, d1, d2⟩ := hc2 0 (by omega)
            replace d0 : _ = some (Value.int IntKind.i64 0) := d0
            rw [show o2 + 0 * 3 = o2 by omega] at d0
            replace hB := below_size hB (Nat.le_refl _) hBr
            clear hc2 hT hT2 hat d1 d2
            go_wp2_with fail
            refine (known_true _).mono ?_
            rintro e w9 ⟨rfl, hB9⟩
            go_wp2
            go_ret
            exact ⟨rfl, below_size hB (Nat.le_refl _) hB9⟩
      · obtain ⟨K, rfl⟩ : ∃ K : Nat, k = (K : Int) := ⟨k.toNat, by omega⟩
        have hK : K < n := by omega
        obtain ⟨g, off, rfl, hc⟩ := hT.cells (by omega)
        obtain ⟨c0, c1, c2⟩ := hc K hK
        have hcut := lex_cut rdB0 ss ss.length 0 ts K (by omega) (Nat.zero_le _) (by rw [List.drop_zero]; exact hlex) (by rw [hn.out]; exact hK)
        rw [List.drop_zero] at hcut
        have hPK := (hat K hK).2.1
        have hx := ext_str ss 0 (ts.getD K tk0).pos
        rw [List.drop_zero, Nat.sub_zero] at hx
        obtain ⟨P, hP⟩ : ∃ P, Hid ((ts.getD K tk0).pos = P) := ⟨_, rfl⟩
        rw [hP.out] at hcut hPK hx c2
        have j1 : ¬ (P : Int) < 0 := by omega
        have j2 : ¬ (ss.length : Int) < (P : Int) := by omega
        have j3 : (P : Int) ≤ (ss.length : Int) := by omega
        have hKI : (K : Int) < (n : Int) := by omega
        have hwK : IntKind.i64.wrap ((K : Int) + 1) = ((K + 1 : Nat) : Int) := by rw [IntKind.wrap_i64]; omega
        have hub : ∀ x ∈ ss.take P, 0 ≤ x ∧ x < 256 := fun x h => hb x (List.mem_of_mem_take h)
        have hul : (ss.take P).length ≤ 4096 := by rw [List.length_take]; omega
        clear c0 c1 hc hlex hP
        go_wp2_with fail
        refine (read_lex (ss.take P) w1 hub (by omega)).mono ?_
        rintro e w2 ⟨hR, hB2⟩
        replace hT := hT.below hB2
        replace hB := below_size hB (Nat.le_refl _) hB2
        clear hB2 c2
        rcases rdp_more hR hul with ⟨p3, ho, rfl⟩ | ⟨l, x, c, rfl, hT2, ho⟩
        · rw [ho] at hcut; cases hcut
        · rw [ho] at hcut
          have hll : l = ts.take K ++ [⟨0, [], P⟩] := by cases hcut; rfl
          have hln : l.length = K + 1 := by rw [hll, List.length_append, List.length_take, hn.out]; simp; omega
          have hq1 : ∀ q, q < K → l.getD q tk0 = ts.getD q tk0 := fun q hq => by
            rw [hll]
            simp only [List.getD_eq_getElem?_getD]
            rw [List.getElem?_append_left (by rw [List.length_take, hn.out]; omega), List.getElem?_take, if_pos hq]
          have hq2 : (l.getD K tk0).kind = 0 := by
            rw [hll]
            simp only [List.getD_eq_getElem?_getD]
            rw [List.getElem?_append_right (by rw [List.length_take, hn.out]; omega), List.length_take, hn.out, show K - min K n = 0 by omega]
            rfl
          clear hR hcut ho hll hx hub hul
          rw [hln] at hT2 ⊢
          have hne : (((K + 1 : Nat) : Int) != ((K + 1 : Nat) : Int)) = false := by simp
          obtain ⟨M, hM⟩ : ∃ M, Hid (K + 1 = M) := ⟨_, rfl⟩
          have hKM : K < M := by have := hM.out; omega
          have hKMI : (K : Int) < (M : Int) := by omega
          have hM4 : M ≤ 4097 := by have := hM.out; omega
          rw [hM.out] at hT2 hne hwK ⊢
          go_wp2
          go_loopw [11] (fun y wr => ∃ q : Nat, y = .int .i64 q ∧ q ≤ K ∧ Below w2.heap.size w2 wr) (fun y _ => K - (intOf y).toNat)
          case atStart => exact ⟨0, rfl, Nat.zero_le _, Below.refl _ _⟩
          case round =>
            obtain ⟨q, rfl, hq, hBr⟩ := hrel
            obtain ⟨g2, o2, rfl, hc2⟩ := (hT2.below hBr).cells (by omega)
            by_cases hlt : q < K
            · have hltI : (q : Int) < (K : Int) := by omega
              have hltJ : (q : Int) < (n : Int) := by omega
              have hltL : (q : Int) < (M : Int) := by omega
              have hwq : IntKind.i64.wrap ((q : Int) + 1) = (q : Int) + 1 := by rw [IntKind.wrap_i64]; omega
              obtain ⟨g1, o1, e1, hc1⟩ := (hT.below hBr).cells (by omega)
              cases e1
              obtain ⟨c0, c1, c2⟩ := hc1 q (by omega)
              obtain ⟨d0, d1, d2⟩ := hc2 q (by omega)
              rw [hq1 q hlt] at d0 d1 d2
              generalize ts.getD q tk0 = t at *
              clear hc1 hc2 hT hT2 hq1 hq2 hat
              go_wp2
              go_region_o
              all_goals go_wp2
              all_goals go_roundw
              all_goals first | exact ⟨q + 1, by go_num, hlt, hBr.drew⟩ | (simp [intOf]; omega)
            · have hltI : ¬ (q : Int) < (K : Int) := by omega
              obtain ⟨d0, d1, d2⟩ := hc2 K hKM
              rw [hq2] at d0
              replace hB := below_size hB (Nat.le_refl _) hBr
              clear hc2 hT hT2 hq1 hq2 hat d1 d2
              go_wp2_with fail
              refine (known_true _).mono ?_
              rintro e w9 ⟨rfl, hB9⟩
              go_wp2
              go_ret
              exact ⟨rfl, below_size hB (Nat.le_refl _) hB9⟩
end Go.Proofs.YtlhmeipbcioncaaDoor
