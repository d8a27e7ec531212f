/- LexPlaces: the law's walk. -/
import Derived.Test.YtlhmeipbcioncaaDoorKno
import Derived.Test.YtlhmeipbcioncaaDoorLexP
import Derived.BigQuiet
namespace Go.Proofs.YtlhmeipbcioncaaDoor
open Go.RowKit
set_option maxRecDepth 100000
theorem rdp_cases {ss : List Int} {e : Ending} {w' : World} (h : RdP ss e w') : (∃ (p : Nat) (er : Int), e = .returned (.tuple #[.slice none 0 0, .int .i64 p, .int .i64 er]) ∧ (er = 3 ∨ er = 20)) ∨ (∃ ts a cap, e = .returned (.tuple #[.slice a ts.length cap, .int .i64 0, .int .i64 0]) ∧ IsT w' a ts.length cap ts ∧ lexR rdB0 0 ss = .ok ts ∧ ss.length ≤ 4096) := by
  unfold RdP at h
  split at h
  · exact .inl ⟨0, 3, h, .inl rfl⟩
  · rename_i hl
    cases ho : lexR rdB0 0 ss with
    | error p => rw [ho] at h; exact .inl ⟨p, 20, h, .inr rfl⟩
    | ok ts =>
      rw [ho] at h
      obtain ⟨a, cap, he, hT⟩ := h
      exact .inr ⟨ts, a, cap, he, hT, rfl, by omega⟩
set_option maxHeartbeats 8000000 in
theorem places_law (ss : List Int) (w : World) (hb : ∀ x ∈ ss, 0 ≤ x ∧ x < 256) (hm : ss.length ≤ 9223372036854775807) : Calls Tryd.prog 8 #[.string (strOfNums ss)] w fun e w' => e = .returned (.bool true) ∧ Below w.heap.size w w' := by
  have hsz : (strOfNums ss).size = ss.length := strOfNums_size ss
  have mixed : Tryd.prog.follows .mixedOrders = true := by kernel_rfl
  go_enter Tryd.func8, Tryd.ntmps8
  go_wp2_with fail
  refine (read_lex ss w hb hm).mono ?_
  rintro e w1 ⟨hR, hB⟩
  rcases rdp_cases hR with ⟨p, er, rfl, her⟩ | ⟨ts, a, cap, rfl, hT, hlex, hl⟩
  · have her' : (er != 0) = true := by rcases her with rfl | rfl <;> rfl
    clear hR her
    go_wp2_with fail
    refine (known_true _).mono ?_
    rintro e w2 ⟨rfl, hB2⟩
    go_wp2
    go_ret
    exact ⟨rfl, below_size hB (Nat.le_refl _) hB2⟩
  · have hP := placed rdB0 ss ss.length 0 ts (by omega) (Nat.zero_le _) (by rw [List.drop_zero]; exact hlex)
    have hPp := hP.pos
    have hPl := hP.len
    have hat := hP.at_ tk0
    clear hR hlex hP
    obtain ⟨n, hn⟩ : ∃ n, Hid (ts.length = n) := ⟨_, rfl⟩
    rw [hn.out] at hT hPp hPl hat ⊢
    go_wp2
    go_loopw [6, 7] (fun x y wr => ∃ (q : Nat) (last : Int), x = .int .i64 last ∧ y = .int .i64 q ∧ q ≤ n ∧ Below w1.heap.size w1 wr ∧ Hid (q < n → last < (ts.getD q tk0).pos)) (fun _ y _ => n - (intOf y).toNat)
    case atStart => exact ⟨0, -1, rfl, rfl, Nat.zero_le _, Below.refl _ _, fun _ => by omega⟩
    case round =>
      obtain ⟨q, last, rfl, rfl, hq, hBr, hlast⟩ := hrel
      by_cases hlt : q < n
      · have hltI : (q : Int) < (n : Int) := by omega
        have hw1 : IntKind.i64.wrap ((q : Int) + 1) = (q : Int) + 1 := by rw [IntKind.wrap_i64]; omega
        have hwn : IntKind.i64.wrap ((n : Int) - 1) = (n : Int) - 1 := by rw [IntKind.wrap_i64]; omega
        obtain ⟨g, off, rfl, hc⟩ := (hT.below hBr).cells (by omega)
        obtain ⟨c0, c1, c2⟩ := hc q hlt
        obtain ⟨p1, p2, p3, p4, p5, p6, p7⟩ := hat q hlt
        have hl2 := hlast.out hlt
        have hnext : Hid (q + 1 < n → ((ts.getD q tk0).pos : Int) < (ts.getD (q + 1) tk0).pos) := fun h => by have := p7 h; omega
        clear hc hlast p7 p6
        unfold Own at p5
        obtain ⟨kd, tx, ps, ht⟩ : ∃ kd tx ps, Hid (ts.getD q tk0 = ⟨kd, tx, ps⟩) := ⟨_, _, _, rfl⟩
        rw [ht.out] at c0 c1 c2 p1 p2 p3 p4 p5 hl2 hnext
        simp only at c0 c1 c2 p1 p2 p3 p4 p5 hl2 hnext
        have k1 : ¬ (ps : Int) ≤ last := by omega
        have k2 : ¬ (ss.length : Int) < (ps : Int) := by omega
        clear ht hat hT
        by_cases hz : kd = 0
        · have k3 : ((q : Int) == (n : Int) - 1) = true := by have := p3.1 hz; simp; omega
          subst hz
          clear p3 p5
          go_upto_region 12 with fail
          have E1 : (wr.alloc (.cells #[.int .i64 (0), .string (strOfNums tx), .int .i64 (ps : Int)] 35)).heap[wr.heap.size]? = some (tkB (0) (strOfNums tx) ps) := newT _ _
          have B1 := below_size hBr (Nat.le_refl _) (boxT (w := wr) (o := .cells #[.int .i64 (0), .string (strOfNums tx), .int .i64 (ps : Int)] 35))
          clear c0 c1 c2
          generalize wr.alloc (.cells #[.int .i64 (0), .string (strOfNums tx), .int .i64 (ps : Int)] 35) = w2 at *
          generalize wr.heap.size = tb at *
          obtain ⟨z0, z1, z2, zf⟩ := tk_cells E1
          go_quiet (fail)
          go_wp2
          go_roundw
          case rel => exact ⟨q + 1, ps, rfl, by go_num, hlt, B1.trans ⟨rfl, rfl, rfl, Nat.le_refl _, fun _ _ => rfl⟩, hnext⟩
          case measure => simp [intOf]; omega
        · have k3 : ((q : Int) == (n : Int) - 1) = false := by
            have : ¬ q + 1 = n := fun h => hz (p3.2 h)
            simp
            omega
          have k0 : (kd == 0) = false := by simp [hz]
          have k0' : (kd != 0) = true := by simp [hz]
          clear p3
          by_cases h5 : kd = 5
          · subst h5
            clear p5
            go_upto_region 12 with fail
            have E1 : (wr.alloc (.cells #[.int .i64 (5), .string (strOfNums tx), .int .i64 (ps : Int)] 35)).heap[wr.heap.size]? = some (tkB (5) (strOfNums tx) ps) := newT _ _
            have B1 := below_size hBr (Nat.le_refl _) (boxT (w := wr) (o := .cells #[.int .i64 (5), .string (strOfNums tx), .int .i64 (ps : Int)] 35))
            clear c0 c1 c2
            generalize wr.alloc (.cells #[.int .i64 (5), .string (strOfNums tx), .int .i64 (ps : Int)] 35) = w2 at *
            generalize wr.heap.size = tb at *
            obtain ⟨z0, z1, z2, zf⟩ := tk_cells E1
            go_quiet (fail)
            go_wp2
            go_roundw
            case rel => exact ⟨q + 1, ps, rfl, by go_num, hlt, B1.trans ⟨rfl, rfl, rfl, Nat.le_refl _, fun _ _ => rfl⟩, hnext⟩
            case measure => simp [intOf]; omega
          · have k5 : (kd != 5) = true := by simp [h5]
            by_cases h6 : kd = 6
            · subst h6
              clear p5
              go_upto_region 12 with fail
              have E1 : (wr.alloc (.cells #[.int .i64 (6), .string (strOfNums tx), .int .i64 (ps : Int)] 35)).heap[wr.heap.size]? = some (tkB (6) (strOfNums tx) ps) := newT _ _
              have B1 := below_size hBr (Nat.le_refl _) (boxT (w := wr) (o := .cells #[.int .i64 (6), .string (strOfNums tx), .int .i64 (ps : Int)] 35))
              clear c0 c1 c2
              generalize wr.alloc (.cells #[.int .i64 (6), .string (strOfNums tx), .int .i64 (ps : Int)] 35) = w2 at *
              generalize wr.heap.size = tb at *
              obtain ⟨z0, z1, z2, zf⟩ := tk_cells E1
              go_quiet (fail)
              go_wp2
              go_roundw
              case rel => exact ⟨q + 1, ps, rfl, by go_num, hlt, B1.trans ⟨rfl, rfl, rfl, Nat.le_refl _, fun _ _ => rfl⟩, hnext⟩
              case measure => simp [intOf]; omega
            · have k6 : (kd != 6) = true := by simp [h6]
              obtain ⟨m, hm1, hm2, rfl⟩ := p5 hz h5 h6
              have hxe := ext_str ss ps (ps + m)
              rw [show ps + m - ps = m by omega] at hxe
              have htl : (strOfNums ((ss.drop ps).take m)).size = m := by rw [strOfNums_size, List.length_take, List.length_drop]; omega
              have j0 : ((m : Int) == 0) = false := by simp; omega
              have hws : IntKind.i64.wrap ((ss.length : Int) - (ps : Int)) = (ss.length : Int) - (ps : Int) := by rw [IntKind.wrap_i64]; omega
              have j1 : ¬ (ss.length : Int) - (ps : Int) < (m : Int) := by omega
              have hwa : IntKind.i64.wrap ((ps : Int) + (m : Int)) = ((ps + m : Nat) : Int) := by rw [IntKind.wrap_i64]; omega
              have j2 : (ps : Int) ≤ ((ps + m : Nat) : Int) := by omega
              have j3 : ((ps + m : Nat) : Int) ≤ (ss.length : Int) := by omega
              have j4 : ((ps + m : Nat) : Int).toNat = ps + m := by omega
              generalize (ss.drop ps).take m = tx at *
              clear hz h5 h6
              go_upto_region 12 with fail
              have E1 : (wr.alloc (.cells #[.int .i64 (kd), .string (strOfNums tx), .int .i64 (ps : Int)] 35)).heap[wr.heap.size]? = some (tkB (kd) (strOfNums tx) ps) := newT _ _
              have B1 := below_size hBr (Nat.le_refl _) (boxT (w := wr) (o := .cells #[.int .i64 (kd), .string (strOfNums tx), .int .i64 (ps : Int)] 35))
              clear c0 c1 c2
              generalize wr.alloc (.cells #[.int .i64 (kd), .string (strOfNums tx), .int .i64 (ps : Int)] 35) = w2 at *
              generalize wr.heap.size = tb at *
              obtain ⟨z0, z1, z2, zf⟩ := tk_cells E1
              go_quiet (fail)
              go_wp2
              go_roundw
              case rel => exact ⟨q + 1, ps, rfl, by go_num, hlt, B1.trans ⟨rfl, rfl, rfl, Nat.le_refl _, fun _ _ => rfl⟩, hnext⟩
              case measure => simp [intOf]; omega
      · have hltI : ¬ (q : Int) < (n : Int) := by omega
        have hq' : q = n := by omega
        obtain ⟨g, off, rfl, hc⟩ := (hT.below hBr).cells (by omega)
        obtain ⟨c0, c1, c2⟩ := hc (n - 1) (by omega)
        obtain ⟨p1, p2, p3, p4, p5, p6, p7⟩ := hat (n - 1) (by omega)
        rw [p6 (by omega)] at c2
        have hwn : IntKind.i64.wrap ((n : Int) - 1) = ((n - 1 : Nat) : Int) := by rw [IntKind.wrap_i64]; omega
        have j1 : (0 : Int) < (n : Int) := by omega
        have j2 : ((n - 1 : Nat) : Int) < (n : Int) := by omega
        have j3 : ((n - 1 : Nat) : Int).toNat = n - 1 := by omega
        clear hc p1 p2 p3 p4 p5 p6 p7 c0 c1 hat hT hlast
        go_wp2_with fail
        refine (known_true _).mono ?_
        rintro e w2 ⟨rfl, hB2⟩
        go_wp2
        go_ret
        exact ⟨rfl, below_size (below_size hB (Nat.le_refl _) hBr) (Nat.le_refl _) hB2⟩
end Go.Proofs.YtlhmeipbcioncaaDoor
