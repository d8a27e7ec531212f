/- Where names that are used stand. -/
import Derived.Test.YtoghhjljmhdioaaScoM
import Derived.Test.YtoghhjljmhdioaaPlcM
import Derived.Test.YtoghhjljmhdioaaKnu
import Derived.BigQuiet
namespace Go.Proofs.Ytoghhjljmhdioaa
/-- A use that stands at its place; what is set is a Temp or a Slot. -/
def UsOk (ss : List Int) (u : Us) : Prop := Stands ss u.pos u.name ∧ (u.write = true → u.kind = 3 ∨ u.kind = 4)
theorem varR_ok {ss : List Int} {sl : List (List Int)} {E : Ev} {rc : Bool} {t : List Int} {p : Nat} {us : List Us} (h : varR sl E rc t p = .ok us) (hs : Stands ss p t) : ∀ u ∈ us, UsOk ss u := by
  unfold varR at h
  split at h
  · split at h
    · cases h
    · cases h
      intro u hu
      rw [List.mem_singleton.1 hu]
      exact ⟨hs, fun h => by cases h⟩
  · cases h
theorem setR_ok {ss : List Int} {sl : List (List Int)} {E : Ev} {t : List Int} {p : Nat} {us : List Us} (h : setR sl E t p = .ok us) (hs : Stands ss p t) : ∀ u ∈ us, UsOk ss u := by
  unfold setR at h
  split at h
  · split at h
    · rename_i hk
      cases h
      intro u hu
      rw [List.mem_singleton.1 hu]
      exact ⟨hs, fun _ => hk.elim .inr (fun h => .inl h.1)⟩
    · cases h
  · cases h
mutual
theorem prtR_ok {ss : List Int} {sl : List (List Int)} : ∀ (x : Nd) {E : Ev} {rc : Bool} {us : List Us}, Plc ss x → prtR sl E rc x = .ok us → ∀ u ∈ us, UsOk ss u
  | .mk k t p n l kids, E, rc, us, hx, h => by
    unfold prtR at h
    by_cases h5 : k = 5
    · rw [if_pos h5] at h
      exact varR_ok h (hx.here (.inl h5))
    rw [if_neg h5] at h
    by_cases h6 : k = 6
    · rw [if_pos h6] at h
      obtain ⟨a, ha, h⟩ := bind_ok h
      obtain ⟨b, hb, h⟩ := bind_ok h
      cases h
      intro u hu
      rcases List.mem_append.1 hu with hu | hu
      · exact setR_ok ha (hx.here (.inr h6)) u hu
      · exact prsR_ok kids hx.kidsOf hb u hu
    rw [if_neg h6] at h
    by_cases h10 : k = 10
    · rw [if_pos h10] at h
      by_cases hs : sndR l = true
      · rw [if_pos hs] at h
        exact prsR_ok kids hx.kidsOf h
      · rw [if_neg hs] at h
        cases h
    rw [if_neg h10] at h
    exact prsR_ok kids hx.kidsOf h
theorem prsR_ok {ss : List Int} {sl : List (List Int)} : ∀ (l : List Nd) {E : Ev} {rc : Bool} {us : List Us}, (∀ x ∈ l, Plc ss x) → prsR sl E rc l = .ok us → ∀ u ∈ us, UsOk ss u
  | [], E, rc, us, _, h => by
    unfold prsR at h
    cases h
    exact fun u hu => absurd hu List.not_mem_nil
  | x :: r, E, rc, us, hl, h => by
    unfold prsR at h
    obtain ⟨a, ha, h⟩ := bind_ok h
    obtain ⟨b, hb, h⟩ := bind_ok h
    cases h
    intro u hu
    rcases List.mem_append.1 hu with hu | hu
    · exact prtR_ok x (hl x (List.mem_cons_self ..)) ha u hu
    · exact prsR_ok r (fun y hy => hl y (List.mem_cons_of_mem _ hy)) hb u hu
end
theorem untR_ok {ss : List Int} {sl : List (List Int)} {E : Ev} {x : Nd} {us : List Us} (hx : Plc ss x) (h : untR sl E x = .ok us) : ∀ u ∈ us, UsOk ss u := by
  unfold untR at h
  by_cases hs : sndR x.names = true
  · rw [if_pos hs] at h
    exact prsR_ok _ hx.kidsOf h
  · rw [if_neg hs] at h
    cases h
end Go.Proofs.Ytoghhjljmhdioaa
namespace Go.Proofs.Ytoghhjljmhdioaa
open Go.RowKit
set_option maxRecDepth 100000
theorem untW_len {sl : List (List Int)} {E : Ev} {x : Nd} {us : List Us} (h : untR sl E x = .ok us) : us.length ≤ cntN x := by
  unfold untR at h
  split at h
  · have := prsR_len _ h
    rw [cntN_kids]
    omega
  · cases h
theorem cat_str (a b : List Int) : strOfNums a ++ strOfNums b = strOfNums (a ++ b) := by
  apply ByteArray.ext
  simp [strOfNums]
theorem open91 : (⟨#[91]⟩ : ByteArray) = strOfNums [91] := by kernel_rfl
theorem shut93 : (⟨#[93]⟩ : ByteArray) = strOfNums [93] := by kernel_rfl
theorem within_str (ss : List Int) : (⟨#[91]⟩ : ByteArray) ++ strOfNums ss ++ (⟨#[93]⟩ : ByteArray) = strOfNums (91 :: (ss ++ [93])) := by
  rw [open91, shut93, cat_str, cat_str]
  rfl
theorem put0_all {w w' : World} {g : Nat} {p k d i : Int} {s : ByteArray} {b : Bool} (h : w.heap[g]? = some (usB p s k d i b)) (p' : Int) (e : w' = w.setCell ⟨g, 0, none⟩ (.int .i64 p')) : w'.heap[g]? = some (usB p' s k d i b) ∧ St g w w' := by
  subst e
  unfold usB at h ⊢
  refine ⟨?_, St.cell _ g 0 _⟩
  rw [heap_setCell_same w g 0 _ _ (.int .i64 p') h]
  simp
set_option maxHeartbeats 8000000 in
theorem within_true (ss : List Int) (sl : List (List Int)) (w : World) (hb : ∀ x ∈ ss, 0 ≤ x ∧ x < 256) (hm : ss.length ≤ 9223372036854775807) {A' : Nat → Prop} {sa : Option Addr} {sc : Nat} (s : SlF A' w sa sl.length sc (sl.map strV)) (hs : BytL sl) :
    Calls Try.prog 4 #[.string (strOfNums ss), .slice sa sl.length sc] w fun e w' => e = .returned (.bool true) ∧ Below w.heap.size w w' := by
  have hsz : (strOfNums ss).size = ss.length := strOfNums_size ss
  go_enter Try.func4, Try.ntmps4
  go_wp2_with fail
  refine (resolved_any ss false sl w hb hm s hs).mono ?_
  rintro e w1 ⟨n, pl, er, hT, B1, h⟩
  rcases h with ⟨h0, rfl⟩ | ⟨rfl, h⟩
  · go_wp2_with fail
    refine (parse_any 10 false (.inl ⟨rfl, rfl⟩) ss w1 hb hm).mono ?_
    rintro e w2 ⟨n2, pl2, er2, v2, hT2, rfl, hn2, B2⟩
    obtain ⟨na, nc, ka, kc, _, rfl, _⟩ := NdV.parts hn2
    go_wp2_with (refine al25 _ rfl rfl ?_)
    intro q w3 E3 hq B3
    go_wp2_with (refine st25 _ rfl _ _ rfl rfl _ _ _ _ _ _ _ _ _ _ _ rfl rfl E3 ?_)
    intro w4 E4 S4
    have B02 : Below w.heap.size w w2 := B1.trans (B2.mono B1.size)
    have B04 : Below w.heap.size w w4 := (B02.trans (B3.mono B02.size)).trans (S4.below (Nat.le_trans B02.size hq))
    have BU4 : Below w1.heap.size w1 w4 := (B2.trans (B3.mono B2.size)).trans (S4.below (Nat.le_trans B2.size hq))
    clear E3 B3 S4 B1 B2 B02 hT2 hn2
    clear hT E4 BU4
    go_wp2_with fail
    refine (known_true w4).mono ?_
    rintro e w9 ⟨rfl, B9⟩
    go_wp2
    go_ret
    exact ⟨rfl, B04.trans (B9.mono B04.size)⟩
  cases hr : untR sl [] n with
  | error pp =>
    rw [hr] at h
    obtain rfl := h
    go_wp2_with fail
    refine (parse_any 10 false (.inl ⟨rfl, rfl⟩) ss w1 hb hm).mono ?_
    rintro e w2 ⟨n2, pl2, er2, v2, hT2, rfl, hn2, B2⟩
    obtain ⟨na, nc, ka, kc, _, rfl, _⟩ := NdV.parts hn2
    go_wp2_with (refine al25 _ rfl rfl ?_)
    intro q w3 E3 hq B3
    go_wp2_with (refine st25 _ rfl _ _ rfl rfl _ _ _ _ _ _ _ _ _ _ _ rfl rfl E3 ?_)
    intro w4 E4 S4
    have B02 : Below w.heap.size w w2 := B1.trans (B2.mono B1.size)
    have B04 : Below w.heap.size w w4 := (B02.trans (B3.mono B02.size)).trans (S4.below (Nat.le_trans B02.size hq))
    have BU4 : Below w1.heap.size w1 w4 := (B2.trans (B3.mono B2.size)).trans (S4.below (Nat.le_trans B2.size hq))
    clear E3 B3 S4 B1 B2 B02 hT2 hn2
    clear hT E4 BU4
    go_wp2_with fail
    refine (known_true w4).mono ?_
    rintro e w9 ⟨rfl, B9⟩
    go_wp2
    go_ret
    exact ⟨rfl, B04.trans (B9.mono B04.size)⟩
  | ok us =>
    rw [hr] at h
    obtain ⟨va, vc, rfl, o⟩ := h
    have hok := untR_ok hT.plc hr
    have hlen := untW_len hr
    obtain ⟨hc, hby⟩ := hT.siz hb
    have s1 := (own3_sl o).2
    have hus : us.length ≤ 100000 := by omega
    clear o hlen hc hby
    go_wp2_with fail
    refine (parse_any 10 false (.inl ⟨rfl, rfl⟩) ss w1 hb hm).mono ?_
    rintro e w2 ⟨n2, pl2, er2, v2, hT2, rfl, hn2, B2⟩
    obtain ⟨rfl, _, he2⟩ := hT.det hT2
    subst he2
    obtain ⟨na, nc, ka, kc, _, rfl, _⟩ := NdV.parts hn2
    go_wp2_with (refine al25 _ rfl rfl ?_)
    intro q w3 E3 hq B3
    go_wp2_with (refine st25 _ rfl _ _ rfl rfl _ _ _ _ _ _ _ _ _ _ _ rfl rfl E3 ?_)
    intro w4 E4 S4
    have B02 : Below w.heap.size w w2 := B1.trans (B2.mono B1.size)
    have B04 : Below w.heap.size w w4 := (B02.trans (B3.mono B02.size)).trans (S4.below (Nat.le_trans B02.size hq))
    have BU4 : Below w1.heap.size w1 w4 := (B2.trans (B3.mono B2.size)).trans (S4.below (Nat.le_trans B2.size hq))
    clear E3 B3 S4 B1 B2 B02 hT2 hn2
    obtain ⟨z0, z1, z2, z3, z4, z5, _⟩ := nd_cells E4
    have s4 : SlF (fun _ => True) w4 va us.length vc (usF us) := s1.imp fun b hb _ => ⟨trivial, BU4.block b hb⟩
    clear s1 BU4 E4
    by_cases hnn : 0 < n.names.length
    · have hnI : (n.names.length : Int) > 0 := by omega
      go_wp2_with fail
      refine (known_true w4).mono ?_
      rintro e w9 ⟨rfl, B9⟩
      go_wp2
      go_ret
      exact ⟨rfl, B04.trans (B9.mono B04.size)⟩
    have hn : n.names = [] := List.eq_nil_of_length_eq_zero (by omega)
    have hn0 : n.names.length = 0 := by omega
    by_cases h3 : 3000 < ss.length
    · have h3I : (ss.length : Int) > 3000 := by omega
      go_wp2_with fail
      refine (known_true w4).mono ?_
      rintro e w9 ⟨rfl, B9⟩
      go_wp2
      go_ret
      exact ⟨rfl, B04.trans (B9.mono B04.size)⟩
    have h3I : ¬ (ss.length : Int) > 3000 := by omega
    have hb' : ∀ x ∈ (91 :: (ss ++ [93]) : List Int), 0 ≤ x ∧ x < 256 := fun x hx => by
      rcases List.mem_cons.1 hx with rfl | hx
      · decide
      · rcases List.mem_append.1 hx with hx | hx
        · exact hb x hx
        · rw [List.mem_singleton.1 hx]; decide
    have hm' : (91 :: (ss ++ [93]) : List Int).length ≤ 9223372036854775807 := by simp only [List.length_cons, List.length_append, List.length_nil]; omega
    have sB : SlF (fun _ => True) w4 sa sl.length sc (sl.map strV) := s.imp fun b hb _ => ⟨trivial, B04.block b hb⟩
    go_wp2_with fail
    rw [within_str]
    refine (resolved_any (91 :: (ss ++ [93])) false sl w4 hb' hm' sB hs).mono ?_
    rintro e w5 ⟨n', pl', er', hT', B5, h'⟩
    have B05 := B04.trans (B5.mono B04.size)
    have s5 : SlF (fun _ => True) w5 va us.length vc (usF us) := s4.imp fun b hb _ => ⟨trivial, B5.block b hb⟩
    clear z0 z1 z2 z3 z4 z5 sB hb' hm' B04 s4
    rcases h' with ⟨h0, rfl⟩ | ⟨rfl, h'⟩
    · go_wp2_with fail
      refine (known_true w5).mono ?_
      rintro e w9 ⟨rfl, B9⟩
      go_wp2
      go_ret
      exact ⟨rfl, B05.trans (B9.mono B05.size)⟩
    obtain ⟨mm, hn'⟩ := (within_tree hb hT hn hT').resolve_left fun h => h rfl
    have hu' : untR sl [] n' = .ok (us.map shU) := by rw [untR_in hn 0 mm n' hn', hr]; rfl
    rw [hu'] at h'
    obtain ⟨vb, vd, rfl, o5⟩ := h'
    rw [List.length_map] at o5
    have t5 := (own3_sl o5).2
    have hlm : (us.map shU).length = us.length := List.length_map ..
    rw [hlm]
    clear o5 B5 hn' hu' hT hT' hr hn hlm hn0
    go_wp2_with fail
    go_loopw [16] (fun iv wr => ∃ k : Nat, k ≤ us.length ∧ iv = .int .i64 (k : Int) ∧ Below w.heap.size w wr ∧ Below w5.heap.size w5 wr) (fun iv _ => us.length - (intOf iv).toNat)
    case atStart => exact ⟨0, Nat.zero_le _, rfl, B05, Below.refl _ _⟩
    case round =>
      obtain ⟨k, hk, rfl, BR, B5R⟩ := hrel
      by_cases hlt : k < us.length
      · obtain ⟨u, hu⟩ : ∃ u, us[k]? = some u := ⟨_, List.getElem?_eq_getElem hlt⟩
        obtain ⟨⟨hp1, _⟩, _⟩ := hok u (List.mem_of_getElem? hu)
        have hu' : (us.map shU)[k]? = some (shU u) := by rw [List.getElem?_map, hu]; rfl
        obtain ⟨g, off, rfl, _, hcc⟩ := s5.cells (by rw [usF_len]; omega)
        obtain ⟨g', off', rfl, _, hcd⟩ := t5.cells (by rw [usF_len, List.length_map]; omega)
        have hB0 : ∀ j x, (usC u)[j]? = some x → wr.cell? ⟨g, off + k * 6 + j, none⟩ = some x := fun j x hj => by
          have h1 := hcc _ _ (usF_at us k u hu j x hj)
          rw [← Nat.add_assoc] at h1
          exact (World.cell?_of_block (a := ⟨g, off + k * 6 + j, none⟩) (B5R.block g (block_lt_of_cell h1))).trans h1
        have hB1 : ∀ j x, (usC (shU u))[j]? = some x → wr.cell? ⟨g', off' + k * 6 + j, none⟩ = some x := fun j x hj => by
          have h1 := hcd _ _ (usF_at (us.map shU) k (shU u) hu' j x hj)
          rw [← Nat.add_assoc] at h1
          exact (World.cell?_of_block (a := ⟨g', off' + k * 6 + j, none⟩) (B5R.block g' (block_lt_of_cell h1))).trans h1
        have d0 := hB0 0 _ rfl
        have d1 := hB0 1 _ rfl
        have d2 := hB0 2 _ rfl
        have d3 := hB0 3 _ rfl
        have d4 := hB0 4 _ rfl
        have d5 := hB0 5 _ rfl
        have f0 : wr.cell? ⟨g', off' + k * 6 + 0, none⟩ = some (.int .i64 ((u.pos : Int) + 1)) := hB1 0 _ rfl
        have f1 : wr.cell? ⟨g', off' + k * 6 + 1, none⟩ = some (.string (strOfNums u.name)) := hB1 1 _ rfl
        have f2 : wr.cell? ⟨g', off' + k * 6 + 2, none⟩ = some (.int .i64 u.kind) := hB1 2 _ rfl
        have f3 : wr.cell? ⟨g', off' + k * 6 + 3, none⟩ = some (.int .i64 (u.depth : Int)) := hB1 3 _ rfl
        have f4 : wr.cell? ⟨g', off' + k * 6 + 4, none⟩ = some (.int .i64 (u.index : Int)) := hB1 4 _ rfl
        have f5 : wr.cell? ⟨g', off' + k * 6 + 5, none⟩ = some (.bool u.write) := hB1 5 _ rfl
        rw [Nat.add_zero] at d0 f0
        clear hcc hcd hB0 hB1 hu hu'
        obtain ⟨p, t, kd, dp, ix, wt⟩ := u
        simp only at d0 d1 d2 d3 d4 d5 f0 f1 f2 f3 f4 f5 hp1
        have hg' := block_lt_of_cell f0
        have hki : (k : Int) < (us.length : Int) := by omega
        have hwp : IntKind.i64.wrap ((p : Int) + 1) = (p : Int) + 1 := by rw [IntKind.wrap_i64]; omega
        go_wp2_with (refine al29 _ rfl rfl ?_)
        intro q7 w7 E7 hq7 B7
        go_wp2_with (refine st29 _ rfl _ _ rfl rfl _ _ _ _ _ _ _ rfl rfl E7 ?_)
        intro w8 E8 S8
        have B8 : Below wr.heap.size wr w8 := B7.trans (S8.below hq7)
        obtain ⟨y0, y1, y2, y3, y4, y5, yf⟩ := us_cells E8
        have yf0 := yf 0
        clear E7 B7 S8 d0 d1 d2 d3 d4 d5
        go_wp2_with fail
        obtain ⟨W9, hW⟩ : ∃ W9, W9 = w8.setCell ⟨q7, 0, none⟩ (.int .i64 ((p : Int) + 1)) := ⟨_, rfl⟩
        obtain ⟨E9, S9⟩ := put0_all E8 _ hW
        rw [← hW]
        clear hW y0 y1 y2 y3 y4 y5 yf yf0 E8
        have B9 : Below wr.heap.size wr W9 := B8.trans (S9.below hq7)
        replace f0 := (B9.cell (p := ⟨g', off' + k * 6, none⟩) hg').trans f0
        replace f1 := (B9.cell (p := ⟨g', off' + k * 6 + 1, none⟩) hg').trans f1
        replace f2 := (B9.cell (p := ⟨g', off' + k * 6 + 2, none⟩) hg').trans f2
        replace f3 := (B9.cell (p := ⟨g', off' + k * 6 + 3, none⟩) hg').trans f3
        replace f4 := (B9.cell (p := ⟨g', off' + k * 6 + 4, none⟩) hg').trans f4
        replace f5 := (B9.cell (p := ⟨g', off' + k * 6 + 5, none⟩) hg').trans f5
        have BR9 := BR.trans (B9.mono BR.size)
        have B59 := B5R.trans (B9.mono B5R.size)
        clear S9 B8 BR B5R B9
        obtain ⟨y0, y1, y2, y3, y4, y5, _⟩ := us_cells E9
        go_quiet (fail)
        go_wp2_with fail
        exact ⟨⟨k + 1, by omega, by go_num, ⟨BR9.os, BR9.tape, BR9.output, BR9.size, BR9.block⟩, ⟨B59.os, B59.tape, B59.output, B59.size, B59.block⟩⟩, by simp [intOf]; omega⟩
      · have hki : ¬ (k : Int) < (us.length : Int) := by omega
        go_wp2_with fail
        refine (known_true wr).mono ?_
        rintro e w9 ⟨rfl, B9⟩
        go_wp2
        go_ret
        exact ⟨rfl, BR.trans (B9.mono BR.size)⟩
end Go.Proofs.Ytoghhjljmhdioaa
