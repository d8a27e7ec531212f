/- The document's All. -/
import Derived.Test.YtigmpmichhghdaaAlm
namespace Go.Proofs.Ytigmpmichhghdaa
open Go.RowKit
set_option maxRecDepth 100000
/-- Where All stands behind k transactions: K what is kept in memory. -/
def AllK (ms : List Tm) (k : Nat) (K : List Tm) (last : Int) : Prop := allA ((ms.take k).map Tm.d) = (K.map Tm.d, last)
theorem AllK.start {ms : List Tm} : AllK ms 0 [] 0 := by simp [AllK, allA]
theorem AllK.inv {ms K : List Tm} {k : Nat} {last : Int} (h : AllK ms k K last) : AllI k (K.map Tm.d, last) := by
  have := allI_all (ms.map Tm.d) k
  rw [← List.map_take] at this
  unfold AllK at h
  rw [h] at this
  exact this
theorem AllK.no {ms K : List Tm} {k : Nat} {last : Int} {x : Tm} (h : AllK ms k K last) (hx : ms[k]? = some x) (hc : x.base < 0 ∨ 1099511627776 < x.base ∨ chkR (K.map Tm.d) x.base x.rs x.ws ≠ none) : AllK ms (k + 1) K last := by
  unfold AllK at h ⊢
  rw [take_at hx, List.map_append, List.map_cons, List.map_nil, allA_snoc, h]
  exact stepA_no hc
theorem AllK.yes {ms K : List Tm} {k : Nat} {last : Int} {x y : Tm} (h : AllK ms k K last) (hx : ms[k]? = some x) (hb : ¬ x.base < 0) (hc : ¬ 1099511627776 < x.base) (hr : chkR (K.map Tm.d) x.base x.rs x.ws = none) (hy : y.d = ⟨x.base, max last x.base + 1, x.rs, x.ws⟩) : AllK ms (k + 1) (K ++ [y]) (max last x.base + 1) := by
  unfold AllK at h ⊢
  rw [take_at hx, List.map_append, List.map_cons, List.map_nil, allA_snoc, h, List.map_append, List.map_cons, List.map_nil, hy]
  exact stepA_yes (fun e => by rcases e with e | e | e; exact hb e; exact hc e; exact e hr)
theorem AllK.fin {ms K : List Tm} {k : Nat} {last : Int} (h : AllK ms k K last) (hk : ms.length = k) : K.map Tm.d = (allA (ms.map Tm.d)).1 := by
  unfold AllK at h
  rw [List.take_of_length_le (by omega)] at h
  rw [h]
/-- A store into a transaction that lies apart. -/
theorem OwnT.setO {w : World} {base b i t : Nat} {v u : Value} {K : List Tm} {c d : Int} {v1 v2 : Value} (h : OwnT 0 w base t v K) (hb : w.heap[b]? = some (tv c d v1 v2 25)) (ho : ∀ g, v.ownBlock = some g → g ≠ b) : OwnT 0 (w.setCell ⟨b, i, none⟩ u) base t v K := by
  refine ⟨own_same h.1 (fun g hg => heap_setCell_other _ _ _ _ (ho g hg)), fun m hm => (h.2 m hm).kept ⟨fun c hc _ => absurd hc (Nat.not_lt_zero _), fun g cur hg => heap_setCell_other _ _ _ _ (fun e => ?_)⟩⟩
  have e' : g = b := e
  rw [e', hb] at hg
  exact absurd (cells_ty hg) (by decide)
/-- What All leaves. -/
def AllP (t : Nat) (w : World) (ms : List Tm) (e : Ending) (w' : World) : Prop := ∃ a n c K, e = .returned (.slice a n c) ∧ OwnT 0 w' w.heap.size t (.slice a n c) K ∧ K.map Tm.d = (allA (ms.map Tm.d)).1 ∧ Below w.heap.size w w'
set_option maxHeartbeats 8000000 in
theorem rall_any {w : World} {da : Option Addr} {dn dc : Nat} {ms : List Tm} (h : IsTs w da dn dc ms) (hdn : dn ≤ 1000) (hsh : Short ms) :
    Calls Try.prog 19 #[.slice da dn dc] w fun e w' => AllP 25 w ms e w' := by
  have hsz : Hid (ms.length = dn) := h.size
  have hdnI : dn ≤ 9223372036854775807 := by omega
  go_enter Try.func19, Try.ntmps19
  go_wp2
  go_loopw [3, 4, 5] (fun ov lv iv wr => ∃ (k : Nat) (K : List Tm) (last : Int), k ≤ dn ∧ iv = .int .i64 (k : Int) ∧ lv = .int .i64 last ∧ OwnT 0 wr w.heap.size 25 ov K ∧ AllK ms k K last ∧ Short K ∧ Below w.heap.size w wr) (fun _ _ iv _ => dn - (intOf iv).toNat)
  case atStart => exact ⟨0, [], 0, by omega, rfl, rfl, ownT_nil _ _ _ _, AllK.start, fun x hx => (by cases hx), Below.refl _ _⟩
  case round =>
    obtain ⟨k, K, last, hkk, rfl, rfl, O, hal, hsK, B⟩ := hrel
    obtain ⟨oa, on, oc, rfl, hon⟩ := O.shape
    replace hon : Hid (on = K.length) := hon
    have inv := hal.inv
    have hlast : 0 ≤ last ∧ last ≤ 1099511627776 + k := ⟨inv.lo, inv.hi⟩
    have hKl : K.length ≤ k := by have := inv.len; simpa using this
    clear inv
    by_cases hlt : k < dn
    · obtain ⟨b, off, x, rfl, _, d0, d1, d2, d3, hx, hxin⟩ := (h.below B).at_ k hlt
      have hkI : (k : Int) < (dn : Int) := by omega
      obtain ⟨hxr, hxw⟩ := hsh x (List.mem_of_getElem? hx.out)
      have hwk : IntKind.i64.wrap ((k : Int) + 1) = (k : Int) + 1 := by rw [IntKind.wrap_i64]; omega
      have B1 := below_size B B.size (box_below (o := txB x 25))
      have E1 : (wr.alloc (txB x 25)).heap[wr.heap.size]? = some (txB x 25) := new1 _ _
      have O1 := O.below (box_below (o := txB x 25))
      have hxin1 := hxin.below (box_below (o := txB x 25))
      obtain ⟨y0, y1, y2, y3, _⟩ := tx_cells E1
      obtain ⟨r, hr⟩ : ∃ r, Hid (chkR (K.map Tm.d) x.base x.rs x.ws = r) := ⟨_, rfl⟩
      have hck := rcheck_any O1.isTs (by rw [hon.out]; omega) hsK hxin1 hxr hxw
      rw [hr.out] at hck
      unfold chkV at hck
      go_upto_region 7 with fail
      unfold txB at B1 E1 O1 hxin1 y0 y1 y2 y3 hck
      generalize wr.alloc (.cells #[.int .i64 x.base, .int .i64 x.com, .slice x.ra x.rn x.rc, .slice x.wa x.wn x.wc] 25) = w1 at *
      have htl := lt_of_block E1
      have hx0 := h.each x (List.mem_of_getElem? hx.out)
      clear O hxin B d0 d1 d2 d3
      go_wp2_with fail
      refine hck.mono ?_
      rintro e w2 ⟨rfl, B2⟩
      have B3 := below_size B1 B1.size B2
      have O2 := O1.below B2
      have hxin2 := hxin1.below B2
      have E2 := (B2.block _ htl).trans E1
      clear hck y0 y1 y2 y3 O1 hxin1 E1 B1 B2
      obtain ⟨y0, y1, y2, y3, _⟩ := tx_cells (m := x) (t := 25) E2
      cases r with
      | some q =>
        have hnx := hal.no hx.out (.inr (.inr (by rw [hr.out]; simp)))
        clear hal hr hx
        dsimp only [Option.getD, eN, Option.isSome, if_true]
        go_wp2
        go_roundw
        case rel => exact ⟨k + 1, K, last, by omega, by go_num, rfl, O2, hnx, hsK, B3⟩
        case measure => simp [intOf]; omega
      | none =>
        dsimp only [Option.getD, eN, Option.isSome]
        by_cases hb0 : x.base < 0
        · have hnx := hal.no hx.out (.inl hb0)
          clear hal hr hx
          go_wp2
          go_roundw
          case rel => exact ⟨k + 1, K, last, by omega, by go_num, rfl, O2, hnx, hsK, B3⟩
          case measure => simp [intOf]; omega
        · by_cases hb1 : 1099511627776 < x.base
          · have hnx := hal.no hx.out (.inr (.inl hb1))
            clear hal hr hx
            go_wp2
            go_roundw
            case rel => exact ⟨k + 1, K, last, by omega, by go_num, rfl, O2, hnx, hsK, B3⟩
            case measure => simp [intOf]; omega
          · have hal2 := fun y h => hal.yes (y := y) hx.out hb0 hb1 hr.out h
            clear hal hr hx
            obtain ⟨C, hC⟩ : ∃ C, Hid (max last x.base + 1 = C) := ⟨_, rfl⟩
            rw [hC.out] at hal2
            have hC64 : I64 C := by rw [← hC.out]; unfold I64; omega
            by_cases hgt : last < x.base
            · have hw1 : IntKind.i64.wrap (x.base + 1) = C := by rw [← hC.out, IntKind.wrap_i64]; omega
              clear hC
              go_upto_region 13 with fail
              have bn : w2.heap.size < (w2.alloc (.cells #[.int .i64 x.base, .int .i64 C, .slice none 0 0, .slice none 0 0] 25)).heap.size := by simp
              have EN : (w2.alloc (.cells #[.int .i64 x.base, .int .i64 C, .slice none 0 0, .slice none 0 0] 25)).heap[w2.heap.size]? = some (tv x.base C (.slice none 0 0) (.slice none 0 0) 25) := new1 _ _
              have EX := old1 E2 (.cells #[.int .i64 x.base, .int .i64 C, .slice none 0 0, .slice none 0 0] 25)
              have Bn := below_size B3 B3.size (box_below (o := .cells #[.int .i64 x.base, .int .i64 C, .slice none 0 0, .slice none 0 0] 25))
              have On := O2.below (box_below (o := .cells #[.int .i64 x.base, .int .i64 C, .slice none 0 0, .slice none 0 0] 25))
              have hxn := hxin2.below (box_below (o := .cells #[.int .i64 x.base, .int .i64 C, .slice none 0 0, .slice none 0 0] 25))
              have hob : ∀ g, (Value.slice oa on oc).ownBlock = some g → g ≠ w2.heap.size := fun g hg e => by
                have := lt_of_block (own_block O2.1 hg).2.choose_spec
                omega
              have hgw : wr.heap.size ≠ w2.heap.size := by have := lt_of_block E2; omega
              have hlo : w.heap.size ≤ w2.heap.size := B3.size
              clear y0 y1 y2 y3 O2 B3 hxin2 E2
              generalize w2.alloc (.cells #[.int .i64 x.base, .int .i64 C, .slice none 0 0, .slice none 0 0] 25) = w3 at *
              generalize w2.heap.size = bn' at *
              obtain ⟨z0, z1, z2, z3, zf⟩ := tv_cells EN
              obtain ⟨y0, y1, y2, y3, _⟩ := tx_cells (m := x) (t := 25) EX
              go_wp2_with (at_builtin; refine app_ints _ rfl _ _ rfl w3.heap.size _ [] rfl (ownI_nil _ _) _ _ _ _ rfl hxn.r.1 (by simp; omega) (Nat.le_refl _) ?_)
              intro a1 n1 c1 w4 O4 B4 _
              have E4 := (B4.block _ (lt_of_block EN)).trans EN
              have X4 := (B4.block _ (lt_of_block EX)).trans EX
              have Q4 := On.below B4
              have hx4 := hxn.below B4
              have B5 := below_size Bn Bn.size B4
              clear z0 z1 z2 z3 zf y0 y1 y2 y3 EN EX On hxn Bn B4
              have E5 := tv_set2 E4 (.slice a1 n1 c1)
              have X5 := (heap_setCell_other w4 ⟨bn', 2, none⟩ wr.heap.size (.slice a1 n1 c1) hgw).trans X4
              have P5 : OwnI (w4.setCell ⟨bn', 2, none⟩ (.slice a1 n1 c1)) 0 (.slice a1 n1 c1) x.rs := ⟨own_mono (own_setCell O4.1 E4 (by decide)) (Nat.zero_le _), O4.2⟩
              have B6 := below_setCell (i := 2) (x := .slice a1 n1 c1) B5 hlo
              have Q5 := Q4.setO E4 (i := 2) (u := .slice a1 n1 c1) hob
              obtain ⟨z0, z1, z2, z3, zf⟩ := tv_cells E4
              have zf2 := zf 2
              obtain ⟨y0, y1, y2, y3, _⟩ := tx_cells (m := x) (t := 25) X5
              have hx5 := hx0.w.1.below B6
              have hs5 : Hid ((w4.setCell ⟨bn', 2, none⟩ (.slice a1 n1 c1)).heap.size = w4.heap.size) := by unfold Hid; simp
              clear Q4 B5 X4 hx4
              go_wp2_with (at_builtin; refine app_ints _ rfl _ _ rfl (w4.setCell ⟨bn', 2, none⟩ (.slice a1 n1 c1)).heap.size _ [] rfl (ownI_nil _ _) _ _ _ _ rfl hx5 (by simp; omega) (Nat.le_refl _) ?_)
              clear z0 z1 z2 z3 zf zf2 y0 y1 y2 y3 hx5
              generalize w4.setCell ⟨bn', 2, none⟩ (.slice a1 n1 c1) = w5 at *
              intro a2 n2 c2 w6 O6 B7 _
              rw [← hs5.out] at B7
              have E6 := (B7.block _ (lt_of_block E5)).trans E5
              have Q6 := Q5.below B7
              have P6 := P5.below B7
              have B8 := below_size B6 B6.size B7
              clear Q5 P5 E5 X5 B6 B7 O4
              obtain ⟨z0, z1, z2, z3, zf⟩ := tv_cells E6
              have zf3 := zf 3
              have E7 := tv_set3 E6 (.slice a2 n2 c2)
              have P7 : OwnI (w6.setCell ⟨bn', 3, none⟩ (.slice a2 n2 c2)) 0 (.slice a1 n1 c1) x.rs := ⟨own_setCell P6.1 E6 (by decide), P6.2⟩
              have O7 : OwnI (w6.setCell ⟨bn', 3, none⟩ (.slice a2 n2 c2)) 0 (.slice a2 n2 c2) x.ws := ⟨own_mono (own_setCell O6.1 E6 (by decide)) (Nat.zero_le _), O6.2⟩
              have Q7 := Q6.setO E6 (i := 3) (u := .slice a2 n2 c2) hob
              have B9 := below_setCell (i := 3) (x := .slice a2 n2 c2) B8 hlo
              clear Q6 P6 O6 B8
              go_upto_region 15 with fail
              clear z0 z1 z2 z3 zf zf3 E6
              generalize w6.setCell ⟨bn', 3, none⟩ (.slice a2 n2 c2) = w7 at *
              obtain ⟨z0, z1, z2, z3, zf⟩ := tv_cells E7
              have Sm : St 0 w7 ⟨x.base, C, a1, n1, c1, a2, n2, c2, x.rs, x.ws⟩ := ⟨hx0.b64, hC64, P7.st, O7.st⟩
              have hnx := hal2 ⟨x.base, C, a1, n1, c1, a2, n2, c2, x.rs, x.ws⟩ rfl
              have hs7 : Short (K ++ [⟨x.base, C, a1, n1, c1, a2, n2, c2, x.rs, x.ws⟩]) := fun z hz => by
                rcases List.mem_append.1 hz with hz | hz
                · exact hsK z hz
                · rw [List.mem_singleton] at hz
                  subst hz
                  have q1 := P7.isI.size
                  have q2 := O7.isI.size
                  have q3 := hx0.r.1.size
                  have q4 := hx0.w.1.size
                  show n1 ≤ 1048576 ∧ n2 ≤ 1048576
                  omega
              have Q8 := Q7.below (box_below (o := .cells #[.int .i64 x.base, .int .i64 C, .slice a1 n1 c1, .slice a2 n2 c2] 25))
              have Sm8 := St.below Sm (box_below (o := .cells #[.int .i64 x.base, .int .i64 C, .slice a1 n1 c1, .slice a2 n2 c2] 25))
              have B10 := below_size B9 B9.size (box_below (o := .cells #[.int .i64 x.base, .int .i64 C, .slice a1 n1 c1, .slice a2 n2 c2] 25))
              clear Q7 Sm P7 O7 hal2
              go_wp2_with (at_builtin; refine app_txn Try.underlying22 Try.info25 (by decide) _ rfl _ _ rfl w.heap.size _ _ rfl Q8 _ ⟨x.base, C, a1, n1, c1, a2, n2, c2, x.rs, x.ws⟩ rfl (lit_cells (m := ⟨x.base, C, a1, n1, c1, a2, n2, c2, x.rs, x.ws⟩)) Sm8 (by omega) B10.size (Nat.zero_le _) ?_)
              intro a8 n8 c8 w8 O8 B11 _
              have B12 := B10.trans B11
              clear z0 z1 z2 z3 zf Q8 Sm8 B11 B10 B9 E7
              go_wp2
              go_roundw
              case rel => exact ⟨k + 1, _, C, by omega, by go_num, rfl, O8, hnx, hs7, B12⟩
              case measure => simp [intOf]; omega
            · have hw1 : IntKind.i64.wrap (last + 1) = C := by rw [← hC.out, IntKind.wrap_i64]; omega
              clear hC
              go_upto_region 13 with fail
              have bn : w2.heap.size < (w2.alloc (.cells #[.int .i64 x.base, .int .i64 C, .slice none 0 0, .slice none 0 0] 25)).heap.size := by simp
              have EN : (w2.alloc (.cells #[.int .i64 x.base, .int .i64 C, .slice none 0 0, .slice none 0 0] 25)).heap[w2.heap.size]? = some (tv x.base C (.slice none 0 0) (.slice none 0 0) 25) := new1 _ _
              have EX := old1 E2 (.cells #[.int .i64 x.base, .int .i64 C, .slice none 0 0, .slice none 0 0] 25)
              have Bn := below_size B3 B3.size (box_below (o := .cells #[.int .i64 x.base, .int .i64 C, .slice none 0 0, .slice none 0 0] 25))
              have On := O2.below (box_below (o := .cells #[.int .i64 x.base, .int .i64 C, .slice none 0 0, .slice none 0 0] 25))
              have hxn := hxin2.below (box_below (o := .cells #[.int .i64 x.base, .int .i64 C, .slice none 0 0, .slice none 0 0] 25))
              have hob : ∀ g, (Value.slice oa on oc).ownBlock = some g → g ≠ w2.heap.size := fun g hg e => by
                have := lt_of_block (own_block O2.1 hg).2.choose_spec
                omega
              have hgw : wr.heap.size ≠ w2.heap.size := by have := lt_of_block E2; omega
              have hlo : w.heap.size ≤ w2.heap.size := B3.size
              clear y0 y1 y2 y3 O2 B3 hxin2 E2
              generalize w2.alloc (.cells #[.int .i64 x.base, .int .i64 C, .slice none 0 0, .slice none 0 0] 25) = w3 at *
              generalize w2.heap.size = bn' at *
              obtain ⟨z0, z1, z2, z3, zf⟩ := tv_cells EN
              obtain ⟨y0, y1, y2, y3, _⟩ := tx_cells (m := x) (t := 25) EX
              go_wp2_with (at_builtin; refine app_ints _ rfl _ _ rfl w3.heap.size _ [] rfl (ownI_nil _ _) _ _ _ _ rfl hxn.r.1 (by simp; omega) (Nat.le_refl _) ?_)
              intro a1 n1 c1 w4 O4 B4 _
              have E4 := (B4.block _ (lt_of_block EN)).trans EN
              have X4 := (B4.block _ (lt_of_block EX)).trans EX
              have Q4 := On.below B4
              have hx4 := hxn.below B4
              have B5 := below_size Bn Bn.size B4
              clear z0 z1 z2 z3 zf y0 y1 y2 y3 EN EX On hxn Bn B4
              have E5 := tv_set2 E4 (.slice a1 n1 c1)
              have X5 := (heap_setCell_other w4 ⟨bn', 2, none⟩ wr.heap.size (.slice a1 n1 c1) hgw).trans X4
              have P5 : OwnI (w4.setCell ⟨bn', 2, none⟩ (.slice a1 n1 c1)) 0 (.slice a1 n1 c1) x.rs := ⟨own_mono (own_setCell O4.1 E4 (by decide)) (Nat.zero_le _), O4.2⟩
              have B6 := below_setCell (i := 2) (x := .slice a1 n1 c1) B5 hlo
              have Q5 := Q4.setO E4 (i := 2) (u := .slice a1 n1 c1) hob
              obtain ⟨z0, z1, z2, z3, zf⟩ := tv_cells E4
              have zf2 := zf 2
              obtain ⟨y0, y1, y2, y3, _⟩ := tx_cells (m := x) (t := 25) X5
              have hx5 := hx0.w.1.below B6
              have hs5 : Hid ((w4.setCell ⟨bn', 2, none⟩ (.slice a1 n1 c1)).heap.size = w4.heap.size) := by unfold Hid; simp
              clear Q4 B5 X4 hx4
              go_wp2_with (at_builtin; refine app_ints _ rfl _ _ rfl (w4.setCell ⟨bn', 2, none⟩ (.slice a1 n1 c1)).heap.size _ [] rfl (ownI_nil _ _) _ _ _ _ rfl hx5 (by simp; omega) (Nat.le_refl _) ?_)
              clear z0 z1 z2 z3 zf zf2 y0 y1 y2 y3 hx5
              generalize w4.setCell ⟨bn', 2, none⟩ (.slice a1 n1 c1) = w5 at *
              intro a2 n2 c2 w6 O6 B7 _
              rw [← hs5.out] at B7
              have E6 := (B7.block _ (lt_of_block E5)).trans E5
              have Q6 := Q5.below B7
              have P6 := P5.below B7
              have B8 := below_size B6 B6.size B7
              clear Q5 P5 E5 X5 B6 B7 O4
              obtain ⟨z0, z1, z2, z3, zf⟩ := tv_cells E6
              have zf3 := zf 3
              have E7 := tv_set3 E6 (.slice a2 n2 c2)
              have P7 : OwnI (w6.setCell ⟨bn', 3, none⟩ (.slice a2 n2 c2)) 0 (.slice a1 n1 c1) x.rs := ⟨own_setCell P6.1 E6 (by decide), P6.2⟩
              have O7 : OwnI (w6.setCell ⟨bn', 3, none⟩ (.slice a2 n2 c2)) 0 (.slice a2 n2 c2) x.ws := ⟨own_mono (own_setCell O6.1 E6 (by decide)) (Nat.zero_le _), O6.2⟩
              have Q7 := Q6.setO E6 (i := 3) (u := .slice a2 n2 c2) hob
              have B9 := below_setCell (i := 3) (x := .slice a2 n2 c2) B8 hlo
              clear Q6 P6 O6 B8
              go_upto_region 15 with fail
              clear z0 z1 z2 z3 zf zf3 E6
              generalize w6.setCell ⟨bn', 3, none⟩ (.slice a2 n2 c2) = w7 at *
              obtain ⟨z0, z1, z2, z3, zf⟩ := tv_cells E7
              have Sm : St 0 w7 ⟨x.base, C, a1, n1, c1, a2, n2, c2, x.rs, x.ws⟩ := ⟨hx0.b64, hC64, P7.st, O7.st⟩
              have hnx := hal2 ⟨x.base, C, a1, n1, c1, a2, n2, c2, x.rs, x.ws⟩ rfl
              have hs7 : Short (K ++ [⟨x.base, C, a1, n1, c1, a2, n2, c2, x.rs, x.ws⟩]) := fun z hz => by
                rcases List.mem_append.1 hz with hz | hz
                · exact hsK z hz
                · rw [List.mem_singleton] at hz
                  subst hz
                  have q1 := P7.isI.size
                  have q2 := O7.isI.size
                  have q3 := hx0.r.1.size
                  have q4 := hx0.w.1.size
                  show n1 ≤ 1048576 ∧ n2 ≤ 1048576
                  omega
              have Q8 := Q7.below (box_below (o := .cells #[.int .i64 x.base, .int .i64 C, .slice a1 n1 c1, .slice a2 n2 c2] 25))
              have Sm8 := St.below Sm (box_below (o := .cells #[.int .i64 x.base, .int .i64 C, .slice a1 n1 c1, .slice a2 n2 c2] 25))
              have B10 := below_size B9 B9.size (box_below (o := .cells #[.int .i64 x.base, .int .i64 C, .slice a1 n1 c1, .slice a2 n2 c2] 25))
              clear Q7 Sm P7 O7 hal2
              go_wp2_with (at_builtin; refine app_txn Try.underlying22 Try.info25 (by decide) _ rfl _ _ rfl w.heap.size _ _ rfl Q8 _ ⟨x.base, C, a1, n1, c1, a2, n2, c2, x.rs, x.ws⟩ rfl (lit_cells (m := ⟨x.base, C, a1, n1, c1, a2, n2, c2, x.rs, x.ws⟩)) Sm8 (by omega) B10.size (Nat.zero_le _) ?_)
              intro a8 n8 c8 w8 O8 B11 _
              have B12 := B10.trans B11
              clear z0 z1 z2 z3 zf Q8 Sm8 B11 B10 B9 E7
              go_wp2
              go_roundw
              case rel => exact ⟨k + 1, _, C, by omega, by go_num, rfl, O8, hnx, hs7, B12⟩
              case measure => simp [intOf]; omega
    · have hge : ¬ (k : Int) < (dn : Int) := by omega
      have hfin := hal.fin (by rw [hsz.out]; omega)
      clear hal
      go_wp2
      go_ret
      exact ⟨oa, on, oc, K, rfl, O, hfin, B⟩
end Go.Proofs.Ytigmpmichhghdaa
