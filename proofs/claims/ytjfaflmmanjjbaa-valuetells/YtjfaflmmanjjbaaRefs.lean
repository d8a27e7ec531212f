/- The objects that an object names. -/
import Derived.Test.YtjfaflmmanjjbaaRCopy
import Derived.Deep.CutBlock
namespace Go.Proofs.Ytjfaflmmanjjbaa
open Go.RowKit
set_option maxRecDepth 100000
theorem Try.info2 : (Try.prog.info? 2).map (fun i => (i.zero, i.size, i.bytes)) = some (some (.int .i64 0), 1, 8) := by kernel_rfl
/-- A slice of whole numbers of the call's own. -/
def OwnI (w : World) (base : Nat) (v : Value) (xs : List Int) : Prop := w.ownsRow base 2 1 v xs.length (xs.map (Value.int .i64))
theorem OwnI.shape {w : World} {base : Nat} {v : Value} {xs : List Int} (h : OwnI w base v xs) : ∃ a c, v = .slice a xs.length c := by
  rcases h.2 with ⟨rfl, h0⟩ | ⟨g, cap, cur, rfl, _⟩
  · exact ⟨none, 0, by rw [h0]⟩
  · exact ⟨_, _, rfl⟩
theorem OwnI.shape' {w : World} {base : Nat} {v : Value} {xs : List Int} (h : OwnI w base v xs) : ∃ a n c, v = .slice a n c := by
  obtain ⟨a, c, e⟩ := h.shape
  exact ⟨a, _, c, e⟩
theorem OwnI.below {w w' : World} {base : Nat} {v : Value} {xs : List Int} (h : OwnI w base v xs) (hb : Below w.heap.size w w') : OwnI w' base v xs := own_below h hb
theorem ownI_nil (w : World) (base : Nat) : OwnI w base (.slice none 0 0) [] := World.ownsRow_nil _ _ _ _
theorem app_int {ops : Array Oper} {rest : List Oper} {o : Oper} {a : Act} {Q : Exit → Act → World → Prop} (w : World) (hgd : o.guard = none) (s x : Operand)
    (ho : o.op = .call { callee := .builtin .append, args := #[s, x], argTypes := #[29, 29] })
    (base : Nat) (v : Value) (xs : List Int) (hs : a.eval s = v) (hown : OwnI w base v xs)
    (b : Nat) (y : Int) (hx : a.eval x = .slice (some ⟨b, 0, none⟩) 1 1) (hc : w.cell? ⟨b, 0, none⟩ = some (.int .i64 y)) (hl : xs.length ≤ 17592186044415) (hbase : base ≤ w.heap.size)
    (h : ∀ a' n' c' w', OwnI w' base (.slice a' n' c') (xs ++ [y]) → Below base w w' → wpList Try.prog ops Q rest (a.put o.dst (.slice a' n' c')) w') : wpList Try.prog ops Q (o :: rest) a w := by
  obtain ⟨i0, hi, hz0, hz1, hz2⟩ := info_parts Try.info2
  refine wpList_append_own w hgd s x 29 ho base 2 i0 (.int .i64 0) 1 8 Try.underlying29 hi hz0 hz1 hz2 rfl (by decide) _ xs.length _ hs hown ⟨b, 0, none⟩ 1 1 [.int .i64 y] hx rfl ?_ (by simp [Value.oneCell']) (by unfold maxLen; omega) (by omega) hbase ?_
  · intro j u hj
    match j with
    | 0 => cases hj; exact hc
    | j + 1 => cases hj
  · intro v' w' hown' hgrow _
    have O : OwnI w' base v' (xs ++ [y]) := by unfold OwnI; rw [List.map_append, List.length_append]; exact hown'
    obtain ⟨a', c', hv⟩ := O.shape
    subst hv
    exact h a' _ c' w' O ((Below.refl _ _).grown hgrow hbase (fun j hj => (hown.lt j hj).1))
/-- What an object names. -/
def refsL (c : Int) (vs : List (Int × Int)) : List Int := (if 0 < c then [c] else []) ++ (vs.filter (fun v => v.1 == 4)).map (·.2)
theorem refs_len (c : Int) (vs : List (Int × Int)) : (refsL c vs).length ≤ vs.length + 1 := by
  unfold refsL
  rw [List.length_append, List.length_map]
  have := List.length_filter_le (fun v : Int × Int => v.1 == 4) vs
  split <;> simp <;> omega
theorem refs_yes {c : Int} {vs : List (Int × Int)} {k : Nat} {y : Int} (h : vs[k]? = some (4, y)) : refsL c (vs.take (k + 1)) = refsL c (vs.take k) ++ [y] := by
  unfold refsL
  rw [take_at h, List.filter_append, List.map_append, List.append_assoc]
  rfl
theorem refs_no {c : Int} {vs : List (Int × Int)} {k : Nat} {x y : Int} (h : vs[k]? = some (x, y)) (hx : ¬ x = 4) : refsL c (vs.take (k + 1)) = refsL c (vs.take k) := by
  unfold refsL
  rw [take_at h, List.filter_append]
  simp [hx]
theorem own_lower {w : World} {b b' : Nat} {v : Value} {xs : List Int} (h : OwnI w b v xs) (hb : b' ≤ b) : OwnI w b' v xs := by
  refine ⟨h.1, ?_⟩
  rcases h.2 with h0 | ⟨g, cap, cur, e, h1, h2⟩
  · exact .inl h0
  · exact .inr ⟨g, cap, cur, e, Nat.le_trans hb h1, h2⟩
def RefsP (w : World) (c : Int) (vs : List (Int × Int)) (e : Ending) (w' : World) : Prop := ∃ v, e = .returned v ∧ OwnI w' w.heap.size v (refsL c vs) ∧ Below w.heap.size w w'
set_option maxHeartbeats 4000000 in
theorem refs_any {w : World} {c : Int} {sa ba : Option Addr} {sn sc bn bc : Nat} {vs : List (Int × Int)} (hv : IsV w sa sn sc vs) (hs : sn ≤ 8796093022208) :
    Calls Try.prog 11 #[.agg #[.int .i64 c, .slice sa sn sc, .slice ba bn bc]] w fun e w' => RefsP w c vs e w' := by
  have hsz := hv.size
  have hsm : sn ≤ 9223372036854775807 := by omega
  have hl0 := refs_len c (vs.take 0)
  have B1 : Below w.heap.size w (w.alloc (objB c (.slice sa sn sc) (.slice ba bn bc))) := box_below
  have E1 : (w.alloc (objB c (.slice sa sn sc) (.slice ba bn bc))).heap[w.heap.size]? = some (objB c (.slice sa sn sc) (.slice ba bn bc)) := new1 _ _
  have hv1 := hv.below (box_below (o := objB c (.slice sa sn sc) (.slice ba bn bc)))
  go_enter Try.func11, Try.ntmps11
  go_upto_if 8 with fail
  unfold objB at B1 E1 hv1
  generalize w.alloc (.cells #[.int .i64 c, .slice sa sn sc, .slice ba bn bc] 27) = w1 at *
  have sz1 : w.heap.size < w1.heap.size := lt_of_block E1
  generalize hb0 : w.heap.size = b0 at *
  replace hb0 : Hid (w.heap.size = b0) := hb0
  obtain ⟨z0, z1, z2, zf⟩ := obj_cells E1
  go_cut [3] from 8 to 14 (fun v3 wx => OwnI wx w1.heap.size v3 (refsL c (vs.take 0)) ∧ Below w1.heap.size w1 wx)
  case first =>
    by_cases hc : 0 < c
    · have e0 : Hid (refsL c (vs.take 0) = [] ++ [c]) := by unfold Hid; simp [refsL, hc]
      go_wp2_with (at_builtin; refine app_int _ rfl _ _ rfl w1.heap.size _ [] rfl (ownI_nil _ _) _ c rfl (by simp) (by simp) (by simp) ?_)
      intro a' n' c' w2 O2 B2
      have B3 : Below w1.heap.size w1 w2 := (box_below (o := .cells #[.int .i64 c] 2)).trans B2
      clear B2
      go_wp2
      go_meet
      exact ⟨by rw [e0.out]; exact O2, B3⟩
    · have e0 : Hid (refsL c (vs.take 0) = []) := by unfold Hid; simp [refsL, hc]
      go_wp2
      go_meet
      exact ⟨by rw [e0.out]; exact ownI_nil _ _, Below.refl _ _⟩
  case rest =>
    obtain ⟨O2, B2⟩ := hcut
    obtain ⟨a3, c3, rfl⟩ := O2.shape
    clear z0 z1 z2 zf
    have E2 := (B2.block b0 sz1).trans E1
    obtain ⟨z0, z1, z2, zf⟩ := obj_cells E2
    go_wp2
    go_loopw [3, 17] (fun ov iv wr => ∃ k : Nat, k ≤ sn ∧ iv = .int .i64 (k : Int) ∧ OwnI wr w1.heap.size ov (refsL c (vs.take k)) ∧ Below w1.heap.size w1 wr) (fun _ iv _ => sn - (intOf iv).toNat)
    case atStart => exact ⟨0, by omega, rfl, O2, B2⟩
    case round =>
      clear O2 B2 E2 z0 z1 z2 zf
      obtain ⟨k, hk, rfl, O, B⟩ := hrel
      obtain ⟨a4, n4, c4, rfl⟩ := O.shape'
      have hl := refs_len c (vs.take k)
      rw [List.length_take] at hl
      by_cases hlt : k < sn
      · obtain ⟨b, off, x, y, rfl, hbl, c0, c1, hx, _, _⟩ := (hv1.below B).at_ k hlt
        have O' := O.below (box_below (o := .cells #[.int .i64 x, .int .i64 y] 23))
        have hO : (((wr.alloc (.cells #[.int .i64 x, .int .i64 y] 23)).alloc (.cells #[.int .i64 y] 2)).cell? ⟨(wr.alloc (.cells #[.int .i64 x, .int .i64 y] 23)).heap.size, 0, none⟩ = some (.int .i64 y)) := by simp
        have sB := B.size
        by_cases h4 : x = 4
        · subst h4
          have O'' := O'.below (box_below (o := .cells #[.int .i64 y] 2))
          have hs : Hid (refsL c (vs.take (k + 1)) = refsL c (vs.take k) ++ [y]) := refs_yes hx.out
          have B' : Below w1.heap.size w1 ((wr.alloc (.cells #[.int .i64 4, .int .i64 y] 23)).alloc (.cells #[.int .i64 y] 2)) := below_size (below_size B sB box_below) (Nat.le_trans sB box_below.size) box_below
          go_wp2_with (at_builtin; refine app_int _ rfl _ _ rfl w1.heap.size _ _ rfl O'' _ y rfl (by simp) (by omega) B'.size ?_)
          intro a' n' c' w2 O2 B2
          have B3 := B'.trans B2
          clear B2 B' O O' O'' B hO
          go_wp2
          go_roundw
          case rel => exact ⟨k + 1, by omega, by go_num, by rw [hs.out]; exact O2, B3⟩
          case measure => simp [intOf]; omega
        · have hs : Hid (refsL c (vs.take (k + 1)) = refsL c (vs.take k)) := refs_no hx.out h4
          have B3 : Below w1.heap.size w1 (wr.alloc (.cells #[.int .i64 x, .int .i64 y] 23)) := below_size B sB box_below
          clear O B
          go_wp2
          go_roundw
          case rel => exact ⟨k + 1, by omega, by go_num, by rw [hs.out]; exact O', B3⟩
          case measure => simp [intOf]; omega
      · go_wp2
        go_ret
        rw [List.take_of_length_le (by omega)] at O
        obtain rfl := hb0.out
        exact ⟨_, rfl, own_lower O (Nat.le_of_lt sz1), B1.trans (B.mono (by omega))⟩
set_option maxHeartbeats 4000000 in
theorem rrefs_any {w : World} {c : Int} {sa ba : Option Addr} {sn sc bn bc : Nat} {vs : List (Int × Int)} (hv : IsV w sa sn sc vs) (hs : sn ≤ 8796093022208) :
    Calls Try.prog 19 #[.agg #[.int .i64 c, .slice sa sn sc, .slice ba bn bc]] w fun e w' => RefsP w c vs e w' := by
  have hsz := hv.size
  have hsm : sn ≤ 9223372036854775807 := by omega
  have hl0 := refs_len c (vs.take 0)
  have B1 : Below w.heap.size w (w.alloc (objB c (.slice sa sn sc) (.slice ba bn bc))) := box_below
  have E1 : (w.alloc (objB c (.slice sa sn sc) (.slice ba bn bc))).heap[w.heap.size]? = some (objB c (.slice sa sn sc) (.slice ba bn bc)) := new1 _ _
  have hv1 := hv.below (box_below (o := objB c (.slice sa sn sc) (.slice ba bn bc)))
  go_enter Try.func19, Try.ntmps19
  go_upto_if 7 with fail
  unfold objB at B1 E1 hv1
  generalize w.alloc (.cells #[.int .i64 c, .slice sa sn sc, .slice ba bn bc] 27) = w1 at *
  have sz1 : w.heap.size < w1.heap.size := lt_of_block E1
  generalize hb0 : w.heap.size = b0 at *
  replace hb0 : Hid (w.heap.size = b0) := hb0
  obtain ⟨z0, z1, z2, zf⟩ := obj_cells E1
  go_cut [3] from 7 to 13 (fun v3 wx => OwnI wx w1.heap.size v3 (refsL c (vs.take 0)) ∧ Below w1.heap.size w1 wx)
  case first =>
    by_cases hc : 0 < c
    · have e0 : Hid (refsL c (vs.take 0) = [] ++ [c]) := by unfold Hid; simp [refsL, hc]
      go_wp2_with (at_builtin; refine app_int _ rfl _ _ rfl w1.heap.size _ [] rfl (ownI_nil _ _) _ c rfl (by simp) (by simp) (by simp) ?_)
      intro a' n' c' w2 O2 B2
      have B3 : Below w1.heap.size w1 w2 := (box_below (o := .cells #[.int .i64 c] 2)).trans B2
      clear B2
      go_wp2
      go_meet
      exact ⟨by rw [e0.out]; exact O2, B3⟩
    · have e0 : Hid (refsL c (vs.take 0) = []) := by unfold Hid; simp [refsL, hc]
      go_wp2
      go_meet
      exact ⟨by rw [e0.out]; exact ownI_nil _ _, Below.refl _ _⟩
  case rest =>
    obtain ⟨O2, B2⟩ := hcut
    obtain ⟨a3, c3, rfl⟩ := O2.shape
    clear z0 z1 z2 zf
    have E2 := (B2.block b0 sz1).trans E1
    obtain ⟨z0, z1, z2, zf⟩ := obj_cells E2
    go_wp2
    go_loopw [3, 4] (fun ov iv wr => ∃ k : Nat, k ≤ sn ∧ iv = .int .i64 (k : Int) ∧ OwnI wr w1.heap.size ov (refsL c (vs.take k)) ∧ Below w1.heap.size w1 wr) (fun _ iv _ => sn - (intOf iv).toNat)
    case atStart => exact ⟨0, by omega, rfl, O2, B2⟩
    case round =>
      clear O2 B2 E2 z0 z1 z2 zf
      obtain ⟨k, hk, rfl, O, B⟩ := hrel
      have E2 := (B.block b0 sz1).trans E1
      obtain ⟨z0, z1, z2, zf⟩ := obj_cells E2
      obtain ⟨a4, n4, c4, rfl⟩ := O.shape'
      have hl := refs_len c (vs.take k)
      rw [List.length_take] at hl
      by_cases hlt : k < sn
      · obtain ⟨b, off, x, y, rfl, hbl, c0, c1, hx, _, _⟩ := (hv1.below B).at_ k hlt
        have sB := B.size
        by_cases h4 : x = 4
        · subst h4
          have O'' := O.below (box_below (o := .cells #[.int .i64 y] 2))
          have hs : Hid (refsL c (vs.take (k + 1)) = refsL c (vs.take k) ++ [y]) := refs_yes hx.out
          have B' : Below w1.heap.size w1 (wr.alloc (.cells #[.int .i64 y] 2)) := below_size B sB box_below
          go_wp2_with (at_builtin; refine app_int _ rfl _ _ rfl w1.heap.size _ _ rfl O'' _ y rfl (by simp) (by omega) B'.size ?_)
          intro a' n' c' w2 O2 B2
          have B3 := B'.trans B2
          clear B2 B' O O'' B z0 z1 z2 zf E2
          go_wp2
          go_roundw
          case rel => exact ⟨k + 1, by omega, by go_num, by rw [hs.out]; exact O2, B3⟩
          case measure => simp [intOf]; omega
        · have hs : Hid (refsL c (vs.take (k + 1)) = refsL c (vs.take k)) := refs_no hx.out h4
          go_wp2
          go_roundw
          case rel => exact ⟨k + 1, by omega, by go_num, by rw [hs.out]; exact O, B⟩
          case measure => simp [intOf]; omega
      · go_wp2
        go_ret
        rw [List.take_of_length_le (by omega)] at O
        obtain rfl := hb0.out
        exact ⟨_, rfl, own_lower O (Nat.le_of_lt sz1), B1.trans (B.mono (by omega))⟩
end Go.Proofs.Ytjfaflmmanjjbaa
