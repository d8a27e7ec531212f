/- read: a source as a tree, or none. -/
import Derived.Test.YtncfmhlikmibaaaGreatDoorPat
import Derived.Test.YtncfmhlikmibaaaGreatDoorLxR
import Derived.ScopeJumps
namespace Go.Proofs.YtncfmhlikmibaaaGreatDoor
open Go.RowKit
set_option maxRecDepth 100000
def u0N : Nd := .mk 12 [] 0 0 [] []
/-- What comes behind a method's pattern: the tree, its place, the error. -/
def BodyR (W : List Tk) (j : Nat) (x n : Nd) (pl : Nat) (e : Int) : Prop := ∃ r, Reads W (.body j 0 x) r ∧ match r with
  | .er k c => n = zNd ∧ pl = psW W k ∧ e = c
  | .ok y k => if kdW W k = 0 then n = y ∧ pl = 0 ∧ e = 0 else n = zNd ∧ pl = psW W k ∧ e = 20
def UnitR (W : List Tk) (m : Bool) (n : Nd) (pl : Nat) (e : Int) : Prop :=
  if m = true then ∃ r, Reads W (.pat 0 0 u0N) r ∧ match r with
    | .er j c => n = zNd ∧ pl = psW W j ∧ e = c
    | .ok x j => BodyR W j x n pl e
  else BodyR W 0 u0N n pl e
def set6 (w : World) (q : Nat) (v0 v1 v2 v3 v4 v5 : Value) : World := (((((w.setCell ⟨q, 0, none⟩ v0).setCell ⟨q, 1, none⟩ v1).setCell ⟨q, 2, none⟩ v2).setCell ⟨q, 3, none⟩ v3).setCell ⟨q, 4, none⟩ v4).setCell ⟨q, 5, none⟩ v5
theorem set6_blk {w : World} {q : Nat} {u0 u1 u2 u3 u4 u5 : Value} (E : w.heap[q]? = some (.cells #[u0, u1, u2, u3, u4, u5] 25)) (v0 v1 v2 v3 v4 v5 : Value) : (set6 w q v0 v1 v2 v3 v4 v5).heap[q]? = some (.cells #[v0, v1, v2, v3, v4, v5] 25) := by
  unfold set6
  have e0 : (w.setCell ⟨q, 0, none⟩ v0).heap[q]? = some (.cells #[v0, u1, u2, u3, u4, u5] 25) := by rw [heap_setCell_same w q 0 _ _ v0 E]; simp
  have e1 : ((w.setCell ⟨q, 0, none⟩ v0).setCell ⟨q, 1, none⟩ v1).heap[q]? = some (.cells #[v0, v1, u2, u3, u4, u5] 25) := by rw [heap_setCell_same _ q 1 _ _ v1 e0]; simp
  generalize (w.setCell ⟨q, 0, none⟩ v0).setCell ⟨q, 1, none⟩ v1 = wa at *
  have e2 : (wa.setCell ⟨q, 2, none⟩ v2).heap[q]? = some (.cells #[v0, v1, v2, u3, u4, u5] 25) := by rw [heap_setCell_same _ q 2 _ _ v2 e1]; simp
  have e3 : ((wa.setCell ⟨q, 2, none⟩ v2).setCell ⟨q, 3, none⟩ v3).heap[q]? = some (.cells #[v0, v1, v2, v3, u4, u5] 25) := by rw [heap_setCell_same _ q 3 _ _ v3 e2]; simp
  generalize (wa.setCell ⟨q, 2, none⟩ v2).setCell ⟨q, 3, none⟩ v3 = wb at *
  have e4 : (wb.setCell ⟨q, 4, none⟩ v4).heap[q]? = some (.cells #[v0, v1, v2, v3, v4, u5] 25) := by rw [heap_setCell_same _ q 4 _ _ v4 e3]; simp
  rw [heap_setCell_same _ q 5 _ _ v5 e4]
  simp
theorem St.trans' {a : Nat} {w w' w'' : World} (h : St a w w') (g : St a w' w'') : St a w w'' := ⟨g.1.trans h.1, g.2.trans h.2, g.3.trans h.3, g.size.trans h.size, fun b hb => (g.block b hb).trans (h.block b hb)⟩
theorem set6_st (w : World) (q : Nat) (v0 v1 v2 v3 v4 v5 : Value) : St q w (set6 w q v0 v1 v2 v3 v4 v5) := by
  unfold set6
  exact ((((((St.cell w q 0 v0).trans' (St.cell _ q 1 v1)).trans' (St.cell _ q 2 v2)).trans' (St.cell _ q 3 v3)).trans' (St.cell _ q 4 v4)).trans' (St.cell _ q 5 v5))
theorem results_three {P : Program} {fn : Func} {tmps : Array Value} {a t b c : Nat} {ad : Addr} {w : World} {v u x : Value} (hf : fn.results = #[.cell a t, .tmp b, .tmp c]) (ha : tmps[a]?.getD undef = .pointer (some ad)) (hu : tmps[b]?.getD undef = u) (hx : tmps[c]?.getD undef = x) (hl : (loadVar t ad).run P w = .ok v w) : (results fn tmps).run P w = .ok (.tuple #[v, u, x]) w := by
  unfold results
  rw [hf]
  simp [ha, hu, hx, asAddr, hl]
set_option maxHeartbeats 8000000 in
theorem unit_con {W : List Tk} {E : Nat} (S : Src W E) (HB : ∀ j, j ≤ E → ConN 26 W (fun x => .body j 0 x) j 0) (ss : List Int) (m : Bool) (w : World)
    (HL : ∀ w, Calls Tryz.prog 24 #[.string (strOfNums ss)] w fun e w' => (∃ a cap, e = .returned (.tuple #[.slice a W.length cap, .int .i64 0, .int .i64 0]) ∧ IsT w' a W.length cap W) ∧ Below w.heap.size w w') :
    Calls Tryz.prog 19 #[.string (strOfNums ss), .bool m] w fun e w' => ∃ n pl er v, UnitR W m n pl er ∧ e = .returned (.tuple #[v, .int .i64 (pl : Int), .int .i64 er]) ∧ NdB w.heap.size w' n v ∧ Below w.heap.size w w' := by
  go_enter Tryz.func19, Tryz.ntmps19
  go_wp2_with (refine al25 _ rfl rfl ?_)
  intro q w1 E1 hq B1
  go_wp2_with fail
  refine wp_scope_jumps 0 (fun a' w' => ∃ (pr j : Nat) (dd c : Int) (u0 u1 u2 u3 u5 u6 u7 u8 u9 u11 u12 u13 u14 u15 u16 u17 u18 u19 u20 u21 u22 u23 u24 u25 u26 u27 u28 u29 u30 u31 u32 u33 u34 u35 u36 u37 u38 u39 u40 u41 u42 u43 u44 u45 u46 u47 : Value), a' = { tmps := #[u0, u1, u2, u3, .pointer (some ⟨q, 0, none⟩), u5, u6, u7, u8, u9, .pointer (some ⟨pr, 0, none⟩), u11, u12, u13, u14, u15, u16, u17, u18, u19, u20, u21, u22, u23, u24, u25, u26, u27, u28, u29, u30, u31, u32, u33, u34, u35, u36, u37, u38, u39, u40, u41, u42, u43, u44, u45, u46, u47], defers := [] } ∧ Rdw w' pr W j dd c ∧ j ≤ E ∧ ZBox w' q ∧ (w.heap.size ≤ pr ∧ q ≠ pr) ∧ Below w.heap.size w w' ∧ Hid (UnitR W m zNd (psW W j) c)) (fun _ _ => 0) rfl ?_ ?_
  · go_wp2_with fail
    refine (HL w1).mono ?_
    rintro e w2 ⟨⟨a, cap, rfl, hT⟩, B2⟩
    have hW0 : 0 < W.length := by have := S.ends.len; omega
    obtain ⟨b, off, rfl, hc0⟩ := hT.cells hW0
    have hbl : b < w2.heap.size := block_lt_of_cell (hc0 0 hW0).1
    have B02 : Below w.heap.size w w2 := B1.trans (B2.mono B1.size)
    have E2 : w2.heap[q]? = _ := (B2.block _ (lt_of_block E1)).trans E1
    have hz2 : ZBox w2 q := ⟨_, _, _, _, _, _, E2⟩
    have hs2 : w.heap.size ≤ w2.heap.size := B02.size
    have hql := hz2.lt
    clear E1 E2 B1 B2 hc0
    have hne0 : ((0 : Int) != 0) = false := rfl
    have C1 : Below w2.heap.size w2 (w2.alloc (redO (some ⟨b, off, none⟩) W.length cap 0 0 20)) := boxO
    have Er := newO w2 (redO (some ⟨b, off, none⟩) W.length cap 0 0 20)
    have hT1 := hT.below C1
    have hsz1 := lt_of_block Er
    have hz3 := hz2.keep (fun hl => C1.block q hl)
    have B03 : Below w.heap.size w (w2.alloc (redO (some ⟨b, off, none⟩) W.length cap 0 0 20)) := B02.trans (C1.mono hs2)
    clear hT C1 hz2 B02
    unfold redO at Er hT1 hsz1 hz3 B03
    cases m with
    | false =>
      go_upto_region 5 with fail
      generalize w2.alloc (.cells #[.slice (some ⟨b, off, none⟩) W.length cap, .int .i64 0, .int .i64 0, .int .i64 20] 50) = w3 at *
      generalize w2.heap.size = pr at *
      have R3 : Rdw w3 pr W 0 0 20 := ⟨b, off, cap, Er, hbl, hT1⟩
      clear Er hT1
      go_wp2_with (refine al25 _ rfl rfl ?_)
      intro qn w4a E4a hqn B4a
      go_wp2_with (refine st25 _ rfl _ _ rfl rfl _ _ _ _ _ _ _ _ _ _ _ rfl rfl E4a ?_)
      intro w4 E4 S4
      have B4 : Below w3.heap.size w3 w4 := B4a.trans (S4.below hqn)
      have M4 : MBox w4 (fun b => pr + 1 ≤ b ∧ b ≠ qn) qn u0N := ⟨rfl, none, 0, E4, World.ownsRow_nil w4 0 9 1, fun g hg => by simp [Value.ownBlock] at hg⟩
      have hl4 := M4.lt
      have hs34 : w3.heap.size ≤ w4.heap.size := B4.size
      have R4 : Rdw w4 pr W 0 ((0 : Nat) : Int) 20 := R3.fr B4
      have hz4 := hz3.keep (fun hl => B4.block q hl)
      have B04 : Below w.heap.size w w4 := B03.trans (B4.mono B03.size)
      have G4 : Gd pr (pr + 1) qn (fun b => pr + 1 ≤ b ∧ b ≠ qn) w4 := ⟨by omega, by omega, by omega, fun b hb => hb.1, fun hb => hb.2 rfl, fun b hb => ⟨by omega, by omega⟩⟩
      have hqp : q ≠ pr := by omega
      clear S4 E4a B4a B4 R3 hz3 B03 E4
      go_wp2_with fail
      refine (HB 0 (Nat.zero_le _) w4 pr qn (pr + 1) _ u0N G4 M4 (Nat.le_refl _) (Nat.zero_le _) R4).mono ?_
      rintro e w5 ⟨r, hr, ha, F5⟩
      have B05 : Below w.heap.size w w5 := B04.trans (F5.below (by omega) (by omega))
      have hz5 := ZBox.keep hz4 (fun _ => F5.block q (by omega) hqp)
      have hs45 := F5.size
      cases r with
      | er k c =>
        obtain ⟨rfl, _, d', h5⟩ := ha
        have hkE : k ≤ E := (hr.adv S.ends (Nat.zero_le _)).2
        have hU : Hid (UnitR W false zNd (psW W k) c) := (by unfold UnitR; rw [if_neg (by decide)]; exact ⟨_, hr, rfl, rfl, rfl⟩)
        go_wp2_with fail
        go_step3
        exact ⟨rfl, pr, k, d', c, _, _, _, _, _, _, _, _, _, _, _, _, _, _, _, _, _, _, _, _, _, _, _, _, _, _, _, _, _, _, _, _, _, _, _, _, _, _, _, _, _, _, _, _, _, _, rfl, h5, hkE, hz5, ⟨hs2, hqp⟩, B05, hU⟩
      | ok y k =>
        obtain ⟨rfl, N5, h5⟩ := ha
        have hkE : k ≤ E := (hr.adv S.ends (Nat.zero_le _)).2
        go_wp2_with fail
        refine (is_any h5 (S.lt hkE) 0).mono ?_
        rintro e w6 ⟨rfl, B6⟩
        have B06 : Below w.heap.size w w6 := B05.trans (B6.mono B05.size)
        have hz6 := hz5.keep (fun hl => B6.block q hl)
        have h6 := h5.fr B6
        have hs56 := B6.size
        by_cases hk0 : kdW W k = 0
        · rw [show (kdW W k == 0) = true by simp [hk0]]
          have hU : UnitR W false y 0 0 := (by unfold UnitR; rw [if_neg (by decide)]; exact ⟨_, hr, by show (if kdW W k = 0 then _ else _); rw [if_pos hk0]; exact ⟨rfl, rfl, rfl⟩⟩)
          obtain ⟨na, nc, ka, kc, Ek, hv⟩ := N5
          replace Ek := (B6.block _ (lt_of_block Ek)).trans Ek
          replace hv := hv.bel B6
          obtain ⟨z0, z1, z2, z3, z4, z5, _⟩ := nd_cells Ek
          obtain ⟨u0, u1, u2, u3, u4, u5, Eq⟩ := hz6
          go_wp2_with (refine st25 _ rfl _ _ rfl rfl _ _ _ _ _ _ _ _ _ _ _ rfl rfl Eq ?_)
          intro wz Ez Sz
          go_wp2
          simp only [Exit.jump]
          exact bodyPost_ret (results_three (a := 4) (t := 25) (b := 5) (c := 6) (by rfl) (by rfl) (by rfl) (by rfl) (load25 Ez)) (by rfl) ⟨y, 0, 0, _, hU, rfl, hv.imp (fun b _ hA => ⟨by omega, Sz.block b (by omega)⟩) _ _, B06.trans (Sz.below hq)⟩
        · rw [show (kdW W k == 0) = false by simp [hk0]]
          have hU : Hid (UnitR W false zNd (psW W k) 20) := (by unfold UnitR; rw [if_neg (by decide)]; exact ⟨_, hr, by show (if kdW W k = 0 then _ else _); rw [if_neg hk0]; exact ⟨rfl, rfl, rfl⟩⟩)
          go_wp2_with fail
          go_step3
          exact ⟨rfl, pr, k, ((0 : Nat) : Int), 20, _, _, _, _, _, _, _, _, _, _, _, _, _, _, _, _, _, _, _, _, _, _, _, _, _, _, _, _, _, _, _, _, _, _, _, _, _, _, _, _, _, _, _, _, _, _, rfl, h6, hkE, hz6, ⟨hs2, hqp⟩, B06, hU⟩
    | true =>
      go_upto_region 5 with fail
      generalize w2.alloc (.cells #[.slice (some ⟨b, off, none⟩) W.length cap, .int .i64 0, .int .i64 0, .int .i64 20] 50) = w3 at *
      generalize w2.heap.size = pr at *
      have R3 : Rdw w3 pr W 0 0 20 := ⟨b, off, cap, Er, hbl, hT1⟩
      clear Er hT1
      go_wp2_with (refine al25 _ rfl rfl ?_)
      intro qn w4a E4a hqn B4a
      go_wp2_with (refine st25 _ rfl _ _ rfl rfl _ _ _ _ _ _ _ _ _ _ _ rfl rfl E4a ?_)
      intro w4 E4 S4
      have B4 : Below w3.heap.size w3 w4 := B4a.trans (S4.below hqn)
      have M4 : MBox w4 (fun b => pr + 1 ≤ b ∧ b ≠ qn) qn u0N := ⟨rfl, none, 0, E4, World.ownsRow_nil w4 0 9 1, fun g hg => by simp [Value.ownBlock] at hg⟩
      have hl4 := M4.lt
      have hs34 : w3.heap.size ≤ w4.heap.size := B4.size
      have R4 : Rdw w4 pr W 0 ((0 : Nat) : Int) 20 := R3.fr B4
      have hz4 := hz3.keep (fun hl => B4.block q hl)
      have B04 : Below w.heap.size w w4 := B03.trans (B4.mono B03.size)
      have G4 : Gd pr (pr + 1) qn (fun b => pr + 1 ≤ b ∧ b ≠ qn) w4 := ⟨by omega, by omega, by omega, fun b hb => hb.1, fun hb => hb.2 rfl, fun b hb => ⟨by omega, by omega⟩⟩
      have hqp : q ≠ pr := by omega
      clear S4 E4a B4a B4 R3 hz3 B03 E4
      go_wp2_with fail
      refine (pattern_con S (d := 0) (Nat.zero_le _) G4 M4 (Nat.le_refl _) (Nat.le_refl _) rfl R4).mono ?_
      rintro e wp ⟨r, hrp, ha, Fp⟩
      have B0p : Below w.heap.size w wp := B04.trans (Fp.below (by omega) (by omega))
      have hzp := hz4.keep (fun _ => Fp.block q (by omega) hqp)
      have hsp := Fp.size
      cases r with
      | er k c =>
        obtain ⟨rfl, d', h5⟩ := ha
        have hkE : k ≤ E := (hrp.adv S.ends (Nat.zero_le _)).2
        have hU : Hid (UnitR W true zNd (psW W k) c) := (by unfold UnitR; rw [if_pos rfl]; exact ⟨_, hrp, rfl, rfl, rfl⟩)
        go_wp2_with fail
        go_step3
        exact ⟨rfl, pr, k, d', c, _, _, _, _, _, _, _, _, _, _, _, _, _, _, _, _, _, _, _, _, _, _, _, _, _, _, _, _, _, _, _, _, _, _, _, _, _, _, _, _, _, _, _, _, _, _, rfl, h5, hkE, hzp, ⟨hs2, hqp⟩, B0p, hU⟩
      | ok xp jp =>
        obtain ⟨rfl, Mp, hpr5, hn1, hn2, hn3⟩ := ha
        have hjE : jp ≤ E := (hrp.adv S.ends (Nat.zero_le _)).2
        have Gp := G4.up Fp.size
        go_wp2_with fail
        refine (HB jp hjE wp pr qn (pr + 1) _ xp Gp Mp hn1 hn3 hpr5).mono ?_
        rintro e w5 ⟨r, hr, ha, F5⟩
        have B05 : Below w.heap.size w w5 := B0p.trans (F5.below (by omega) (by omega))
        have hz5 := ZBox.keep hzp (fun _ => F5.block q (by omega) hqp)
        have hs45 := F5.size
        cases r with
        | er k c =>
          obtain ⟨rfl, _, d', h5⟩ := ha
          have hkE : k ≤ E := (hr.adv S.ends hjE).2
          have hU : Hid (UnitR W true zNd (psW W k) c) := (by unfold UnitR; rw [if_pos rfl]; exact ⟨_, hrp, ⟨_, hr, rfl, rfl, rfl⟩⟩)
          go_wp2_with fail
          go_step3
          exact ⟨rfl, pr, k, d', c, _, _, _, _, _, _, _, _, _, _, _, _, _, _, _, _, _, _, _, _, _, _, _, _, _, _, _, _, _, _, _, _, _, _, _, _, _, _, _, _, _, _, _, _, _, _, rfl, h5, hkE, hz5, ⟨hs2, hqp⟩, B05, hU⟩
        | ok y k =>
          obtain ⟨rfl, N5, h5⟩ := ha
          have hkE : k ≤ E := (hr.adv S.ends hjE).2
          go_wp2_with fail
          refine (is_any h5 (S.lt hkE) 0).mono ?_
          rintro e w6 ⟨rfl, B6⟩
          have B06 : Below w.heap.size w w6 := B05.trans (B6.mono B05.size)
          have hz6 := hz5.keep (fun hl => B6.block q hl)
          have h6 := h5.fr B6
          have hs56 := B6.size
          by_cases hk0 : kdW W k = 0
          · rw [show (kdW W k == 0) = true by simp [hk0]]
            have hU : UnitR W true y 0 0 := (by unfold UnitR; rw [if_pos rfl]; exact ⟨_, hrp, ⟨_, hr, by show (if kdW W k = 0 then _ else _); rw [if_pos hk0]; exact ⟨rfl, rfl, rfl⟩⟩⟩)
            obtain ⟨na, nc, ka, kc, Ek, hv⟩ := N5
            replace Ek := (B6.block _ (lt_of_block Ek)).trans Ek
            replace hv := hv.bel B6
            obtain ⟨z0, z1, z2, z3, z4, z5, _⟩ := nd_cells Ek
            obtain ⟨u0, u1, u2, u3, u4, u5, Eq⟩ := hz6
            go_wp2_with (refine st25 _ rfl _ _ rfl rfl _ _ _ _ _ _ _ _ _ _ _ rfl rfl Eq ?_)
            intro wz Ez Sz
            go_wp2
            simp only [Exit.jump]
            exact bodyPost_ret (results_three (a := 4) (t := 25) (b := 5) (c := 6) (by rfl) (by rfl) (by rfl) (by rfl) (load25 Ez)) (by rfl) ⟨y, 0, 0, _, hU, rfl, hv.imp (fun b _ hA => ⟨by omega, Sz.block b (by omega)⟩) _ _, B06.trans (Sz.below hq)⟩
          · rw [show (kdW W k == 0) = false by simp [hk0]]
            have hU : Hid (UnitR W true zNd (psW W k) 20) := (by unfold UnitR; rw [if_pos rfl]; exact ⟨_, hrp, ⟨_, hr, by show (if kdW W k = 0 then _ else _); rw [if_neg hk0]; exact ⟨rfl, rfl, rfl⟩⟩⟩)
            go_wp2_with fail
            go_step3
            exact ⟨rfl, pr, k, ((0 : Nat) : Int), 20, _, _, _, _, _, _, _, _, _, _, _, _, _, _, _, _, _, _, _, _, _, _, _, _, _, _, _, _, _, _, _, _, _, _, _, _, _, _, _, _, _, _, _, _, _, _, rfl, h6, hkE, hz6, ⟨hs2, hqp⟩, B06, hU⟩
  · rintro a' w' ⟨pr, j, dd, c, u0, u1, u2, u3, u5, u6, u7, u8, u9, u11, u12, u13, u14, u15, u16, u17, u18, u19, u20, u21, u22, u23, u24, u25, u26, u27, u28, u29, u30, u31, u32, u33, u34, u35, u36, u37, u38, u39, u40, u41, u42, u43, u44, u45, u46, u47, rfl, hr, hj, hz, ⟨hpr, hqp⟩, hB, hU⟩
    obtain ⟨x0, x1, x2, x3, x4, x5, Eq⟩ := hz
    have f2 := fld2
    go_wp2_with fail
    have hrd : Rdw w'.drew pr W j dd c := hr.same (fun _ _ => rfl) rfl
    have Eqd : w'.drew.heap[q]? = _ := Eq
    obtain ⟨d1, d2, d3, h1, h2, h3⟩ := hrd.own
    go_region_with (go_at_call 28; go_loud (refine (wordR_any (i := j) (d := dd) (y := c) (W := W) (p := pr) ?_ (S.lt hj)).mono ?_); exact hrd; go_loud (rintro e w9 ⟨rfl, B9⟩); have hr9 := hrd.fr B9; obtain ⟨c1, c2, c3, g1, g2, g3⟩ := hr9.own; have Eq9 := (B9.block q (lt_of_block Eqd)).trans Eqd; obtain ⟨z0, z1, z2, z3, z4, z5, zf⟩ := nd_cells Eq9; have zf0 := zf 0; have zf1 := zf 1; have zf2 := zf 2; have zf3 := zf 3; have zf4 := zf 4; have zf5 := zf 5)
    all_goals
      have Ez := set6_blk Eq9 (.int .i64 0) (.string ⟨#[]⟩) (.int .i64 0) (.int .i64 0) (.slice none 0 0) (.slice none 0 0)
      have Sz := set6_st w9 q (.int .i64 0) (.string ⟨#[]⟩) (.int .i64 0) (.int .i64 0) (.slice none 0 0) (.slice none 0 0)
      unfold set6 at Ez Sz
      have hBd : Below w.heap.size w w'.drew := hB.trans ((Below.refl _ w').drew.mono hB.size)
      have hB9 : Below w.heap.size w w9 := hBd.trans (B9.mono hBd.size)
      clear c1 c2 c3 g1 g2 g3 z0 z1 z2 z3 z4 z5 zf zf0 zf1 zf2 zf3 zf4 zf5 d1 d2 d3 h1 h2 h3
      generalize (((((w9.setCell ⟨q, 0, none⟩ (.int .i64 0)).setCell ⟨q, 1, none⟩ (.string ⟨#[]⟩)).setCell ⟨q, 2, none⟩ (.int .i64 0)).setCell ⟨q, 3, none⟩ (.int .i64 0)).setCell ⟨q, 4, none⟩ (.slice none 0 0)).setCell ⟨q, 5, none⟩ (.slice none 0 0) = wz at *
      go_wp2
      simp only [Exit.jump]
      exact bodyPost_ret (results_three (a := 4) (t := 25) (b := 5) (c := 6) (by rfl) (by rfl) (by rfl) (by rfl) (load25 Ez)) (by rfl) ⟨zNd, _, _, _, hU, rfl, NdB.zero, hB9.trans (Sz.below hq)⟩
end Go.Proofs.YtncfmhlikmibaaaGreatDoor
