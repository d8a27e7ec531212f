/- A name that is set. -/
import Derived.Test.YtoghhjljmhdioaaRdu
import Derived.Test.YtoghhjljmhdioaaKey
namespace Go.Proofs.Ytoghhjljmhdioaa
open Go.RowKit
set_option maxRecDepth 100000
theorem tmpE_lt : ∀ (E : Ev) {t : List Int} {m d i : Nat}, tmpR E t m = some (d, i) → m ≤ d ∧ d < m + E.length
  | [], t, m, d, i, h => by cases h
  | (l, n) :: r, t, m, d, i, h => by
    unfold tmpR at h
    split at h
    · cases h
      simp only [List.length_cons]
      omega
    · have := tmpE_lt r h
      simp only [List.length_cons]
      omega
theorem fixE_kind {t : List Int} {k : Int} {i : Nat} (h : fixR t = some (k, i)) : k ≠ 3 := by
  unfold fixR at h
  repeat' split at h
  all_goals first | cases h; decide | cases h
theorem outE_kind {sl : List (List Int)} {t : List Int} {k : Int} {d i : Nat} (h : outR sl t = some (k, d, i)) : k ≠ 3 := by
  unfold outR at h
  repeat' split at h
  all_goals first | cases h; decide | cases h
theorem namE_lt {sl : List (List Int)} {E : Ev} {t : List Int} {d i : Nat} (h : namR sl E t = some (3, d, i)) : d < E.length := by
  unfold namR at h
  split at h
  · rename_i k j hf
    cases h
    exact absurd rfl (fixE_kind hf)
  · split at h
    · rename_i d' i' ht
      cases h
      have := tmpE_lt E ht
      omega
    · exact absurd rfl (outE_kind h)
theorem put5_all {w w' : World} {g : Nat} {p k d i : Int} {s : ByteArray} {b : Bool} (h : w.heap[g]? = some (usB p s k d i b)) (b' : Bool) (e : w' = w.setCell ⟨g, 5, none⟩ (.bool b')) : w'.heap[g]? = some (usB p s k d i b') ∧ St g w w' := by
  subst e
  unfold usB at h ⊢
  refine ⟨?_, St.cell _ g 5 _⟩
  rw [heap_setCell_same w g 5 _ _ (.bool b') h]
  simp
set_option maxHeartbeats 8000000 in
theorem writeU_any {B : Nat} {Z : Nat → Prop} {p : Nat} {sa : Option Addr} {sc : Nat} {sl : List (List Int)} {w : World} {us : List Us} {f : Nat} (h : Wk B Z p sa sc sl w us f) (hs : BytL sl) (E : Ev) (q : Option Nat) (C : Chn Z w E q) (hE : ∀ y ∈ E, BytL y.1) (hl : E.length ≤ 1000000) (hus : us.length ≤ 500000) (t : List Int) (ps : Nat) (k0 n0 : Int) (na : Option Addr) (nl nc : Nat) (ka : Option Addr) (kl kc : Nat) (hb : ∀ c ∈ t, 0 ≤ c ∧ c < 256) :
    Calls Try.prog 47 #[.pointer (some ⟨p, 0, none⟩), ptrO q, .agg #[.int .i64 k0, .string (strOfNums t), .int .i64 (ps : Int), .int .i64 n0, .slice na nl nc, .slice ka kl kc]] w fun e w' => PtP B Z p sa sc sl us f w (setR sl E t ps) e w' := by
  obtain ⟨va0, vc0, ep, _, _⟩ := h.blk
  have sp := h.slots
  go_enter Try.func47, Try.ntmps47
  go_wp2_with (refine bx25 _ rfl _ rfl _ _ _ _ _ _ _ _ _ _ rfl ?_)
  intro n w1 E1 hn B1
  obtain ⟨z0, z1, z2, z3, z4, z5, _⟩ := nd_cells E1
  have C1 := C.below B1
  have ep1 := (B1.block p (lt_of_block ep)).trans ep
  have sp1 : SlF Z w1 sa sl.length sc (sl.map strV) := sp.imp fun b hb hA => ⟨hA, B1.block b hb⟩
  go_wp2_with fail
  refine (namedU_any p sl E q t ps _ ep1 sp1 hs C1 hE hl k0 n0 na nl nc ka kl kc hb).mono ?_
  rintro e w2 ⟨rfl, B2⟩
  have B02 : Below w.heap.size w w2 := B1.trans (B2.mono B1.size)
  have En := (B2.block n (lt_of_block E1)).trans E1
  have C2 := C.below B02
  clear z0 z1 z2 z3 z4 z5 C1 C ep1 sp1 ep sp E1 B1 B2
  cases hnm : namR sl E t with
  | none =>
    have hv : setR sl E t ps = .error ps := by unfold setR; rw [hnm]
    clear hnm
    simp only [nmdV]
    go_wp2_with (refine al29 _ rfl rfl ?_)
    intro g w4 E4 hg B4
    go_wp2_with (refine st29 _ rfl _ _ rfl rfl _ _ _ _ _ _ _ rfl rfl E4 ?_)
    intro w5 Eg S5
    have hng : n ≠ g := by have := lt_of_block En; omega
    have En5 := (S5.block n hng).trans ((B4.block n (lt_of_block En)).trans En)
    have hgw : w.heap.size ≤ g := Nat.le_trans B02.size hg
    have B24 : Below w2.heap.size w2 w5 := B4.trans (S5.below hg)
    have C5 := C2.below B24
    have B05 : Below w.heap.size w w5 := B02.trans (B24.mono B02.size)
    clear E4 B4 S5 hg En B02 C2 B24
    obtain ⟨z0, z1, z2, z3, z4, z5, _⟩ := nd_cells En5
    obtain ⟨y0, y1, y2, y3, y4, y5, yf⟩ := us_cells Eg
    have yf5 := yf 5
    go_wp2_with fail
    refine (fail_any (h.bel B05) ps).mono ?_
    rintro e w8 ⟨rfl, h8, K8⟩
    go_wp2
    go_ret
    exact ⟨(Kw.of_below B05).trans K8, by first | exact ⟨rfl, us, h8⟩ | (rw [hv]; exact ⟨rfl, us, h8⟩)⟩
  | some y =>
    obtain ⟨k, d, i⟩ := y
    simp only [nmdV]
    go_wp2_with (refine al29 _ rfl rfl ?_)
    intro g w4 E4 hg B4
    go_wp2_with (refine st29 _ rfl _ _ rfl rfl _ _ _ _ _ _ _ rfl rfl E4 ?_)
    intro w5 Eg S5
    have hng : n ≠ g := by have := lt_of_block En; omega
    have En5 := (S5.block n hng).trans ((B4.block n (lt_of_block En)).trans En)
    have hgw : w.heap.size ≤ g := Nat.le_trans B02.size hg
    have B24 : Below w2.heap.size w2 w5 := B4.trans (S5.below hg)
    have C5 := C2.below B24
    have B05 : Below w.heap.size w w5 := B02.trans (B24.mono B02.size)
    clear E4 B4 S5 hg En B02 C2 B24
    obtain ⟨z0, z1, z2, z3, z4, z5, _⟩ := nd_cells En5
    obtain ⟨y0, y1, y2, y3, y4, y5, yf⟩ := us_cells Eg
    have yf5 := yf 5
    by_cases h4 : k = 4
    · subst h4
      have hv : setR sl E t ps = .ok [⟨ps, t, 4, d, i, true⟩] := by unfold setR; rw [hnm]; exact if_pos (.inl rfl)
      clear hnm
      go_wp2_with fail
      obtain ⟨u, hu⟩ : ∃ u : Us, u = ⟨ps, t, 4, d, i, true⟩ := ⟨_, rfl⟩
      obtain ⟨wr, hwr⟩ : ∃ wr, wr = w5.setCell ⟨g, 5, none⟩ (.bool true) := ⟨_, rfl⟩
      obtain ⟨Eg5, S5⟩ := put5_all Eg true hwr
      rw [← hwr]
      rw [← hu] at hv
      have B09 : Below w.heap.size w wr := B05.trans (S5.below hgw)
      have hW := h.bel B09
      clear Eg hwr S5
      have Eg : wr.heap[g]? = some (usB (u.pos : Int) (strOfNums u.name) u.kind (u.depth : Int) (u.index : Int) u.write) := by rw [hu]; exact Eg5
      clear hu Eg5 y0 y1 y2 y3 y4 y5 yf yf5 z0 z1 z2 z3 z4 z5 En5 C5 hs hE hb
      obtain ⟨va, vc, Ep, Ow, hown⟩ := hW.blk
      have hpl := lt_of_block Ep
      refine abstract_act fun A hA => ?_
      have hsz : A.tmps.size = 48 := by rw [hA]; rfl
      have s0 : A.tmps[0]? = some (.pointer (some ⟨p, 0, none⟩)) := by rw [hA]; rfl
      have s7 : A.tmps[7]? = some (.pointer (some ⟨g, 0, none⟩)) := by rw [hA]; rfl
      refine wp_region_inv' (fun A D a w' => ∃ (l : List Value) (xa : Option Addr) (nb : Nat) (xc : Nat), a = putAll A 38 l ∧ l.length = 10 ∧ (∀ j, j < 10 → D j → l[j]? = some (pusV p us u va xa vc nb xc j)) ∧ (D 7 ∨ Below wr.heap.size wr w') ∧ (D 10 → Wk B Z p sa sc sl w' (us ++ [u]) f ∧ Kw Z wr w') ∧ (D 6 → ¬ D 7 → w'.heap[nb]? = some (usB (u.pos : Int) (strOfNums u.name) u.kind (u.depth : Int) (u.index : Int) u.write) ∧ wr.heap.size ≤ nb) ∧ (D 7 → ¬ D 10 → w'.heap[p]? = some (.cells #[.slice sa sl.length sc, .slice va us.length vc, .int .i64 (f : Int)] 47) ∧ w'.ownsRow B 29 6 (.slice xa (us.length + 1) xc) (us.length + 1) (usF (us ++ [u])) ∧ Kw Z wr w' ∧ ∀ q, (Value.slice xa (us.length + 1) xc).ownBlock = some q → ¬ Z q ∧ q ≠ p)) (by kernel_rfl) (by kernel_rfl) ?mono ?start ?step ?done
      case mono =>
        rintro D D' a w' hD ⟨l, xa, nb, xc, ha, hlen, hl, hB, hQ, hG, hP⟩
        exact ⟨l, xa, nb, xc, ha, hlen, fun j hj h => hl j hj ((hD j).2 h), hB.imp_left (hD 7).1, fun h => hQ ((hD 10).2 h), fun h h' => hG ((hD 6).2 h) (fun k => h' ((hD 7).1 k)), fun h h' => hP ((hD 7).2 h) (fun k => h' ((hD 10).1 k))⟩
      case start => exact ⟨_, none, 0, 0, (putAll_start A 38 10 (by omega)).1, (putAll_start A 38 10 (by omega)).2, fun _ _ h => h.elim, .inr ((Below.refl _ _).drew), fun h => h.elim, fun h _ => h.elim, fun h _ => h.elim⟩
      case step =>
        clear hA
        intro i o ho D a w' hI hn hcl hd
        obtain ⟨l, xa, nb, xc, ha, hlen, hl, hB, hQ, hG, hP⟩ := hI
        match i, ho with
        | 0, ho =>
          cases Option.some.inj ho
          have ev : a.tmps[0]? = some (.pointer (some ⟨p, 0, none⟩)) := by rw [ha, putAll_low A 38 0 l (by omega) (by decide)]; exact s0
          refine wp_value (w' := w') (v := .pointer (some ⟨p, 0, none⟩)) (by simp [execOp, ev, go_sem]) ?_
          exact ⟨_, xa, nb, xc, by rw [ha]; exact putAll_put A 38 0 l _ (by omega) (by omega), by rw [List.length_set]; exact hlen, set_known hlen (by decide) hl, hB.imp_left .inr, fun h => hQ (h.resolve_left (by decide)), fun h h' => hG (h.resolve_left (by decide)) (fun k => h' (.inr k)), fun h h' => hP (h.resolve_left (by decide)) (fun k => h' (.inr k))⟩
        | 1, ho =>
          cases Option.some.inj ho
          have ev : a.tmps[0]? = some (.pointer (some ⟨p, 0, none⟩)) := by rw [ha, putAll_low A 38 0 l (by omega) (by decide)]; exact s0
          refine wp_value (w' := w') (v := .pointer (some ⟨p, 0, none⟩)) (by simp [execOp, ev, go_sem]) ?_
          exact ⟨_, xa, nb, xc, by rw [ha]; exact putAll_put A 38 1 l _ (by omega) (by omega), by rw [List.length_set]; exact hlen, set_known hlen (by decide) hl, hB.imp_left .inr, fun h => hQ (h.resolve_left (by decide)), fun h h' => hG (h.resolve_left (by decide)) (fun k => h' (.inr k)), fun h h' => hP (h.resolve_left (by decide)) (fun k => h' (.inr k))⟩
        | 2, ho =>
          cases Option.some.inj ho
          have ev : a.tmps[39]? = some (.pointer (some ⟨p, 0, none⟩)) := known_at ha hsz hlen hl 1 (by decide) (hd ⟨1, .data⟩ (by simp) rfl)
          refine wp_value (w' := w') (v := .pointer (some ⟨p, 0, none⟩)) (by simp [execOp, ev, go_sem]) ?_
          exact ⟨_, xa, nb, xc, by rw [ha]; exact putAll_put A 38 2 l _ (by omega) (by omega), by rw [List.length_set]; exact hlen, set_known hlen (by decide) hl, hB.imp_left .inr, fun h => hQ (h.resolve_left (by decide)), fun h h' => hG (h.resolve_left (by decide)) (fun k => h' (.inr k)), fun h h' => hP (h.resolve_left (by decide)) (fun k => h' (.inr k))⟩
        | 3, ho =>
          cases Option.some.inj ho
          have ev : a.tmps[40]? = some (.pointer (some ⟨p, 0, none⟩)) := known_at ha hsz hlen hl 2 (by decide) (hd ⟨2, .data⟩ (by simp) rfl)
          refine wp_value (w' := w') (v := .pointer (some ⟨p, 1, none⟩)) (by simp [execOp, ev, go_sem]) ?_
          exact ⟨_, xa, nb, xc, by rw [ha]; exact putAll_put A 38 3 l _ (by omega) (by omega), by rw [List.length_set]; exact hlen, set_known hlen (by decide) hl, hB.imp_left .inr, fun h => hQ (h.resolve_left (by decide)), fun h h' => hG (h.resolve_left (by decide)) (fun k => h' (.inr k)), fun h h' => hP (h.resolve_left (by decide)) (fun k => h' (.inr k))⟩
        | 4, ho =>
          cases Option.some.inj ho
          have ev : a.tmps[41]? = some (.pointer (some ⟨p, 1, none⟩)) := known_at ha hsz hlen hl 3 (by decide) (hd ⟨3, .data⟩ (by simp) rfl)
          have hb := hB.resolve_left (fun h => hn (hcl 7 _ rfl h ⟨4, .data⟩ (by simp) rfl))
          obtain ⟨z0, z1, z2, _⟩ := wk3 ((hb.block p hpl).trans Ep)
          refine wp_value (w' := w') (v := .slice va us.length vc) (by simp [execOp, ev, go_sem, z1]) ?_
          exact ⟨_, xa, nb, xc, by rw [ha]; exact putAll_put A 38 4 l _ (by omega) (by omega), by rw [List.length_set]; exact hlen, set_known hlen (by decide) hl, hB.imp_left .inr, fun h => hQ (h.resolve_left (by decide)), fun h h' => hG (h.resolve_left (by decide)) (fun k => h' (.inr k)), fun h h' => hP (h.resolve_left (by decide)) (fun k => h' (.inr k))⟩
        | 5, ho =>
          cases Option.some.inj ho
          have ev : a.tmps[7]? = some (.pointer (some ⟨g, 0, none⟩)) := by rw [ha, putAll_low A 38 7 l (by omega) (by decide)]; exact s7
          have hb := hB.resolve_left (fun h => (fun h => hn (hcl 6 _ rfl h ⟨5, .data⟩ (by simp) rfl)) (hcl 7 _ rfl h ⟨6, .data⟩ (by simp) rfl))
          obtain ⟨y0, y1, y2, y3, y4, y5, _⟩ := us_cells ((hb.block g (lt_of_block Eg)).trans Eg)
          refine wp_value (w' := w') (v := .agg #[.int .i64 (u.pos : Int), .string (strOfNums u.name), .int .i64 u.kind, .int .i64 (u.depth : Int), .int .i64 (u.index : Int), .bool u.write]) (by simp [execOp, ev, go_sem, y0, y1, y2, y3, y4, y5]) ?_
          exact ⟨_, xa, nb, xc, by rw [ha]; exact putAll_put A 38 5 l _ (by omega) (by omega), by rw [List.length_set]; exact hlen, set_known hlen (by decide) hl, hB.imp_left .inr, fun h => hQ (h.resolve_left (by decide)), fun h h' => hG (h.resolve_left (by decide)) (fun k => h' (.inr k)), fun h h' => hP (h.resolve_left (by decide)) (fun k => h' (.inr k))⟩
        | 6, ho =>
          cases Option.some.inj ho
          have ev : a.tmps[43]? = some (.agg #[.int .i64 (u.pos : Int), .string (strOfNums u.name), .int .i64 u.kind, .int .i64 (u.depth : Int), .int .i64 (u.index : Int), .bool u.write]) := known_at ha hsz hlen hl 5 (by decide) (hd ⟨5, .data⟩ (by simp) rfl)
          have hb := hB.resolve_left (fun h => hn (hcl 7 _ rfl h ⟨6, .data⟩ (by simp) rfl))
          refine wp_value (w' := w'.alloc (usB (u.pos : Int) (strOfNums u.name) u.kind (u.depth : Int) (u.index : Int) u.write)) (v := .slice (some ⟨w'.heap.size, 0, none⟩) 1 1) (by simp [execOp, ev, go_sem, usB]) ?_
          exact ⟨_, xa, w'.heap.size, xc, by rw [ha]; exact putAll_put A 38 6 l _ (by omega) (by omega), by rw [List.length_set]; exact hlen, set_known' (val' := pusV p us u va xa vc w'.heap.size xc) hlen (by decide) hl (fun j hj hne => match j, hj, hne with | 0, _, _ => rfl | 1, _, _ => rfl | 2, _, _ => rfl | 3, _, _ => rfl | 4, _, _ => rfl | 5, _, _ => rfl | 6, _, hne => absurd rfl hne | 7, _, _ => rfl | 8, _, _ => rfl | 9, _, _ => rfl | j + 10, _, _ => rfl), hB.imp .inr (fun h => below_size h (Nat.le_refl _) boxO), fun h => absurd (h.resolve_left (by decide)) (fun h => (fun h => hn (hcl 7 _ rfl h ⟨6, .data⟩ (by simp) rfl)) (hcl 10 _ rfl h ⟨7, .data⟩ (by simp) rfl)), fun _ _ => ⟨newO w' _, hb.size⟩, fun h _ => absurd (h.resolve_left (by decide)) (fun h => hn (hcl 7 _ rfl h ⟨6, .data⟩ (by simp) rfl))⟩
        | 7, ho =>
          cases Option.some.inj ho
          have ev : a.tmps[42]? = some (.slice va us.length vc) := known_at ha hsz hlen hl 4 (by decide) (hd ⟨4, .data⟩ (by simp) rfl)
          have ev' : a.tmps[44]? = some (.slice (some ⟨nb, 0, none⟩) 1 1) := known_at ha hsz hlen hl 6 (by decide) (hd ⟨6, .data⟩ (by simp) rfl)
          have hb := hB.resolve_left hn
          obtain ⟨G1, G2⟩ := hG (hd ⟨6, .data⟩ (by simp) rfl) hn
          refine op23 w' (.tmp 42) (.tmp 44) rfl (u := u) (by simpa [Act.eval] using evalS ev) (by simpa [Act.eval] using evalS ev') (ownU_keep Ow fun g hg => hb.block g (own_lt Ow hg)) G1 hus (Nat.le_trans hW.le hb.size) ?_
          intro xa' xc' w6 O6 K6 P6
          exact ⟨_, xa', nb, xc', by rw [ha]; exact putAll_put A 38 7 l _ (by omega) (by omega), by rw [List.length_set]; exact hlen, set_known' (val' := pusV p us u va xa' vc nb xc') hlen (by decide) hl (fun j hj hne => match j, hj, hne with | 0, _, _ => rfl | 1, _, _ => rfl | 2, _, _ => rfl | 3, _, _ => rfl | 4, _, _ => rfl | 5, _, _ => rfl | 6, _, _ => rfl | 7, _, hne => absurd rfl hne | 8, _, _ => rfl | 9, _, _ => rfl | j + 10, _, _ => rfl), .inl (.inl rfl), fun h => absurd (h.resolve_left (by decide)) (fun h => hn (hcl 10 _ rfl h ⟨7, .data⟩ (by simp) rfl)), fun _ h' => absurd (.inl rfl) h', fun _ _ => ⟨(K6.block p (Nat.lt_of_lt_of_le hpl hb.size) (fun e => (hown p e).2 rfl)).trans ((hb.block p hpl).trans Ep), O6, (Kw.of_below hb).trans (Kw.of_kp K6 fun g hg => (hown g hg).1), fun q hq => (P6 q hq).elim (hown q) (fun h => ⟨fun hA => by have := hW.lt q hA; have := hb.size; omega, by have := hb.size; omega⟩)⟩⟩
        | 8, ho =>
          cases Option.some.inj ho
          have ev : a.tmps[38]? = some (.pointer (some ⟨p, 0, none⟩)) := known_at ha hsz hlen hl 0 (by decide) (hd ⟨0, .data⟩ (by simp) rfl)
          refine wp_value (w' := w') (v := .pointer (some ⟨p, 0, none⟩)) (by simp [execOp, ev, go_sem]) ?_
          exact ⟨_, xa, nb, xc, by rw [ha]; exact putAll_put A 38 8 l _ (by omega) (by omega), by rw [List.length_set]; exact hlen, set_known hlen (by decide) hl, hB.imp_left .inr, fun h => hQ (h.resolve_left (by decide)), fun h h' => hG (h.resolve_left (by decide)) (fun k => h' (.inr k)), fun h h' => hP (h.resolve_left (by decide)) (fun k => h' (.inr k))⟩
        | 9, ho =>
          cases Option.some.inj ho
          have ev : a.tmps[46]? = some (.pointer (some ⟨p, 0, none⟩)) := known_at ha hsz hlen hl 8 (by decide) (hd ⟨8, .data⟩ (by simp) rfl)
          refine wp_value (w' := w') (v := .pointer (some ⟨p, 1, none⟩)) (by simp [execOp, ev, go_sem]) ?_
          exact ⟨_, xa, nb, xc, by rw [ha]; exact putAll_put A 38 9 l _ (by omega) (by omega), by rw [List.length_set]; exact hlen, set_known hlen (by decide) hl, hB.imp_left .inr, fun h => hQ (h.resolve_left (by decide)), fun h h' => hG (h.resolve_left (by decide)) (fun k => h' (.inr k)), fun h h' => hP (h.resolve_left (by decide)) (fun k => h' (.inr k))⟩
        | 10, ho =>
          cases Option.some.inj ho
          have ev : a.tmps[47]? = some (.pointer (some ⟨p, 1, none⟩)) := known_at ha hsz hlen hl 9 (by decide) (hd ⟨9, .data⟩ (by simp) rfl)
          have ev' : a.tmps[45]? = some (.slice xa (us.length + 1) xc) := known_at ha hsz hlen hl 7 (by decide) (hd ⟨7, .data⟩ (by simp) rfl)
          obtain ⟨E6, O6, K6, H6⟩ := hP (hd ⟨7, .data⟩ (by simp) rfl) hn
          have hput := hW.put E6 (l := us ++ [u]) (by simp) O6 K6 H6
          obtain ⟨z0, z1, z2, zf⟩ := wk3 E6
          have zf1 := zf 1
          refine wp_skipR (w' := w'.setCell ⟨p, 1, none⟩ (.slice xa (us.length + 1) xc)) (by simp [execOp, Act.eval, ev, ev', go_sem, z1, zf1]) ?_
          exact ⟨l, xa, nb, xc, ha, hlen, fun j hj h => hl j hj (h.resolve_left (by omega)), .inl (.inr (hd ⟨7, .data⟩ (by simp) rfl)), fun _ => hput, fun _ h' => absurd (Or.inr (hd ⟨7, .data⟩ (by simp) rfl)) h', fun _ h' => absurd (.inl rfl) h'⟩
        | i + 11, ho => simp at ho
      case done =>
        rintro D a w' ⟨l, xa, nb, xc, ha, hlen, hl, hB, hQ, hG, hP⟩ hall
        obtain ⟨v0, v1, v2, v3, v4, v5, v6, v7, v8, v9, rfl⟩ := pusV_list hlen
        obtain ⟨W9, K9⟩ := hQ (hall 10 (by decide))
        subst hA
        have hfr : a = _ := ha
        rw [hfr]
        clear hfr ha
        simp only [putAll, List.take_succ_cons, List.take_zero, List.drop_succ_cons, List.drop_zero, List.cons_append, List.nil_append, List.length_cons, List.length_nil]
        clear hl hB hG hP hQ hall
        go_wp2
        go_ret
        exact ⟨(Kw.of_below B09).trans K9, by first | exact ⟨rfl, W9⟩ | (rw [hv]; exact ⟨rfl, W9⟩)⟩
    · by_cases h3 : k = 3
      · subst h3
        have hd := namE_lt hnm
        go_wp2_with fail
        refine (argument_any E q t ps 3 d i false _ C5 hl hd).mono ?_
        rintro e w7 ⟨rfl, B7⟩
        have B07 : Below w.heap.size w w7 := B05.trans (B7.mono B05.size)
        replace En5 := (B7.block n (lt_of_block En5)).trans En5
        have Eg7 := (B7.block g (lt_of_block Eg)).trans Eg
        clear z0 z1 z2 z3 z4 z5 y0 y1 y2 y3 y4 y5 yf yf5 Eg B7
        have Eg := Eg7
        clear Eg7
        obtain ⟨z0, z1, z2, z3, z4, z5, _⟩ := nd_cells En5
        obtain ⟨y0, y1, y2, y3, y4, y5, yf⟩ := us_cells Eg
        have yf5 := yf 5
        cases hra : argR E d i with
        | true =>
          have hv : setR sl E t ps = .error ps := by unfold setR; rw [hnm]; exact if_neg (fun h => h.elim (by decide) (fun h => by rw [hra] at h; exact absurd h.2 (by decide)))
          clear hnm hra
          go_wp2_with fail
          refine (fail_any (h.bel B07) ps).mono ?_
          rintro e w8 ⟨rfl, h8, K8⟩
          go_wp2
          go_ret
          exact ⟨(Kw.of_below B07).trans K8, by first | exact ⟨rfl, us, h8⟩ | (rw [hv]; exact ⟨rfl, us, h8⟩)⟩
        | false =>
          have hv : setR sl E t ps = .ok [⟨ps, t, 3, d, i, true⟩] := by unfold setR; rw [hnm]; exact if_pos (.inr ⟨rfl, hra⟩)
          clear hnm hra
          go_wp2_with fail
          obtain ⟨u, hu⟩ : ∃ u : Us, u = ⟨ps, t, 3, d, i, true⟩ := ⟨_, rfl⟩
          obtain ⟨wr, hwr⟩ : ∃ wr, wr = w7.setCell ⟨g, 5, none⟩ (.bool true) := ⟨_, rfl⟩
          obtain ⟨Eg5, S5⟩ := put5_all Eg true hwr
          rw [← hwr]
          rw [← hu] at hv
          have B09 : Below w.heap.size w wr := B07.trans (S5.below hgw)
          have hW := h.bel B09
          clear Eg hwr S5
          have Eg : wr.heap[g]? = some (usB (u.pos : Int) (strOfNums u.name) u.kind (u.depth : Int) (u.index : Int) u.write) := by rw [hu]; exact Eg5
          clear hu Eg5 y0 y1 y2 y3 y4 y5 yf yf5 z0 z1 z2 z3 z4 z5 En5 C5 hs hE hb
          obtain ⟨va, vc, Ep, Ow, hown⟩ := hW.blk
          have hpl := lt_of_block Ep
          refine abstract_act fun A hA => ?_
          have hsz : A.tmps.size = 48 := by rw [hA]; rfl
          have s0 : A.tmps[0]? = some (.pointer (some ⟨p, 0, none⟩)) := by rw [hA]; rfl
          have s7 : A.tmps[7]? = some (.pointer (some ⟨g, 0, none⟩)) := by rw [hA]; rfl
          refine wp_region_inv' (fun A D a w' => ∃ (l : List Value) (xa : Option Addr) (nb : Nat) (xc : Nat), a = putAll A 38 l ∧ l.length = 10 ∧ (∀ j, j < 10 → D j → l[j]? = some (pusV p us u va xa vc nb xc j)) ∧ (D 7 ∨ Below wr.heap.size wr w') ∧ (D 10 → Wk B Z p sa sc sl w' (us ++ [u]) f ∧ Kw Z wr w') ∧ (D 6 → ¬ D 7 → w'.heap[nb]? = some (usB (u.pos : Int) (strOfNums u.name) u.kind (u.depth : Int) (u.index : Int) u.write) ∧ wr.heap.size ≤ nb) ∧ (D 7 → ¬ D 10 → w'.heap[p]? = some (.cells #[.slice sa sl.length sc, .slice va us.length vc, .int .i64 (f : Int)] 47) ∧ w'.ownsRow B 29 6 (.slice xa (us.length + 1) xc) (us.length + 1) (usF (us ++ [u])) ∧ Kw Z wr w' ∧ ∀ q, (Value.slice xa (us.length + 1) xc).ownBlock = some q → ¬ Z q ∧ q ≠ p)) (by kernel_rfl) (by kernel_rfl) ?mono ?start ?step ?done
          case mono =>
            rintro D D' a w' hD ⟨l, xa, nb, xc, ha, hlen, hl, hB, hQ, hG, hP⟩
            exact ⟨l, xa, nb, xc, ha, hlen, fun j hj h => hl j hj ((hD j).2 h), hB.imp_left (hD 7).1, fun h => hQ ((hD 10).2 h), fun h h' => hG ((hD 6).2 h) (fun k => h' ((hD 7).1 k)), fun h h' => hP ((hD 7).2 h) (fun k => h' ((hD 10).1 k))⟩
          case start => exact ⟨_, none, 0, 0, (putAll_start A 38 10 (by omega)).1, (putAll_start A 38 10 (by omega)).2, fun _ _ h => h.elim, .inr ((Below.refl _ _).drew), fun h => h.elim, fun h _ => h.elim, fun h _ => h.elim⟩
          case step =>
            clear hA
            intro i o ho D a w' hI hn hcl hd
            obtain ⟨l, xa, nb, xc, ha, hlen, hl, hB, hQ, hG, hP⟩ := hI
            match i, ho with
            | 0, ho =>
              cases Option.some.inj ho
              have ev : a.tmps[0]? = some (.pointer (some ⟨p, 0, none⟩)) := by rw [ha, putAll_low A 38 0 l (by omega) (by decide)]; exact s0
              refine wp_value (w' := w') (v := .pointer (some ⟨p, 0, none⟩)) (by simp [execOp, ev, go_sem]) ?_
              exact ⟨_, xa, nb, xc, by rw [ha]; exact putAll_put A 38 0 l _ (by omega) (by omega), by rw [List.length_set]; exact hlen, set_known hlen (by decide) hl, hB.imp_left .inr, fun h => hQ (h.resolve_left (by decide)), fun h h' => hG (h.resolve_left (by decide)) (fun k => h' (.inr k)), fun h h' => hP (h.resolve_left (by decide)) (fun k => h' (.inr k))⟩
            | 1, ho =>
              cases Option.some.inj ho
              have ev : a.tmps[0]? = some (.pointer (some ⟨p, 0, none⟩)) := by rw [ha, putAll_low A 38 0 l (by omega) (by decide)]; exact s0
              refine wp_value (w' := w') (v := .pointer (some ⟨p, 0, none⟩)) (by simp [execOp, ev, go_sem]) ?_
              exact ⟨_, xa, nb, xc, by rw [ha]; exact putAll_put A 38 1 l _ (by omega) (by omega), by rw [List.length_set]; exact hlen, set_known hlen (by decide) hl, hB.imp_left .inr, fun h => hQ (h.resolve_left (by decide)), fun h h' => hG (h.resolve_left (by decide)) (fun k => h' (.inr k)), fun h h' => hP (h.resolve_left (by decide)) (fun k => h' (.inr k))⟩
            | 2, ho =>
              cases Option.some.inj ho
              have ev : a.tmps[39]? = some (.pointer (some ⟨p, 0, none⟩)) := known_at ha hsz hlen hl 1 (by decide) (hd ⟨1, .data⟩ (by simp) rfl)
              refine wp_value (w' := w') (v := .pointer (some ⟨p, 0, none⟩)) (by simp [execOp, ev, go_sem]) ?_
              exact ⟨_, xa, nb, xc, by rw [ha]; exact putAll_put A 38 2 l _ (by omega) (by omega), by rw [List.length_set]; exact hlen, set_known hlen (by decide) hl, hB.imp_left .inr, fun h => hQ (h.resolve_left (by decide)), fun h h' => hG (h.resolve_left (by decide)) (fun k => h' (.inr k)), fun h h' => hP (h.resolve_left (by decide)) (fun k => h' (.inr k))⟩
            | 3, ho =>
              cases Option.some.inj ho
              have ev : a.tmps[40]? = some (.pointer (some ⟨p, 0, none⟩)) := known_at ha hsz hlen hl 2 (by decide) (hd ⟨2, .data⟩ (by simp) rfl)
              refine wp_value (w' := w') (v := .pointer (some ⟨p, 1, none⟩)) (by simp [execOp, ev, go_sem]) ?_
              exact ⟨_, xa, nb, xc, by rw [ha]; exact putAll_put A 38 3 l _ (by omega) (by omega), by rw [List.length_set]; exact hlen, set_known hlen (by decide) hl, hB.imp_left .inr, fun h => hQ (h.resolve_left (by decide)), fun h h' => hG (h.resolve_left (by decide)) (fun k => h' (.inr k)), fun h h' => hP (h.resolve_left (by decide)) (fun k => h' (.inr k))⟩
            | 4, ho =>
              cases Option.some.inj ho
              have ev : a.tmps[41]? = some (.pointer (some ⟨p, 1, none⟩)) := known_at ha hsz hlen hl 3 (by decide) (hd ⟨3, .data⟩ (by simp) rfl)
              have hb := hB.resolve_left (fun h => hn (hcl 7 _ rfl h ⟨4, .data⟩ (by simp) rfl))
              obtain ⟨z0, z1, z2, _⟩ := wk3 ((hb.block p hpl).trans Ep)
              refine wp_value (w' := w') (v := .slice va us.length vc) (by simp [execOp, ev, go_sem, z1]) ?_
              exact ⟨_, xa, nb, xc, by rw [ha]; exact putAll_put A 38 4 l _ (by omega) (by omega), by rw [List.length_set]; exact hlen, set_known hlen (by decide) hl, hB.imp_left .inr, fun h => hQ (h.resolve_left (by decide)), fun h h' => hG (h.resolve_left (by decide)) (fun k => h' (.inr k)), fun h h' => hP (h.resolve_left (by decide)) (fun k => h' (.inr k))⟩
            | 5, ho =>
              cases Option.some.inj ho
              have ev : a.tmps[7]? = some (.pointer (some ⟨g, 0, none⟩)) := by rw [ha, putAll_low A 38 7 l (by omega) (by decide)]; exact s7
              have hb := hB.resolve_left (fun h => (fun h => hn (hcl 6 _ rfl h ⟨5, .data⟩ (by simp) rfl)) (hcl 7 _ rfl h ⟨6, .data⟩ (by simp) rfl))
              obtain ⟨y0, y1, y2, y3, y4, y5, _⟩ := us_cells ((hb.block g (lt_of_block Eg)).trans Eg)
              refine wp_value (w' := w') (v := .agg #[.int .i64 (u.pos : Int), .string (strOfNums u.name), .int .i64 u.kind, .int .i64 (u.depth : Int), .int .i64 (u.index : Int), .bool u.write]) (by simp [execOp, ev, go_sem, y0, y1, y2, y3, y4, y5]) ?_
              exact ⟨_, xa, nb, xc, by rw [ha]; exact putAll_put A 38 5 l _ (by omega) (by omega), by rw [List.length_set]; exact hlen, set_known hlen (by decide) hl, hB.imp_left .inr, fun h => hQ (h.resolve_left (by decide)), fun h h' => hG (h.resolve_left (by decide)) (fun k => h' (.inr k)), fun h h' => hP (h.resolve_left (by decide)) (fun k => h' (.inr k))⟩
            | 6, ho =>
              cases Option.some.inj ho
              have ev : a.tmps[43]? = some (.agg #[.int .i64 (u.pos : Int), .string (strOfNums u.name), .int .i64 u.kind, .int .i64 (u.depth : Int), .int .i64 (u.index : Int), .bool u.write]) := known_at ha hsz hlen hl 5 (by decide) (hd ⟨5, .data⟩ (by simp) rfl)
              have hb := hB.resolve_left (fun h => hn (hcl 7 _ rfl h ⟨6, .data⟩ (by simp) rfl))
              refine wp_value (w' := w'.alloc (usB (u.pos : Int) (strOfNums u.name) u.kind (u.depth : Int) (u.index : Int) u.write)) (v := .slice (some ⟨w'.heap.size, 0, none⟩) 1 1) (by simp [execOp, ev, go_sem, usB]) ?_
              exact ⟨_, xa, w'.heap.size, xc, by rw [ha]; exact putAll_put A 38 6 l _ (by omega) (by omega), by rw [List.length_set]; exact hlen, set_known' (val' := pusV p us u va xa vc w'.heap.size xc) hlen (by decide) hl (fun j hj hne => match j, hj, hne with | 0, _, _ => rfl | 1, _, _ => rfl | 2, _, _ => rfl | 3, _, _ => rfl | 4, _, _ => rfl | 5, _, _ => rfl | 6, _, hne => absurd rfl hne | 7, _, _ => rfl | 8, _, _ => rfl | 9, _, _ => rfl | j + 10, _, _ => rfl), hB.imp .inr (fun h => below_size h (Nat.le_refl _) boxO), fun h => absurd (h.resolve_left (by decide)) (fun h => (fun h => hn (hcl 7 _ rfl h ⟨6, .data⟩ (by simp) rfl)) (hcl 10 _ rfl h ⟨7, .data⟩ (by simp) rfl)), fun _ _ => ⟨newO w' _, hb.size⟩, fun h _ => absurd (h.resolve_left (by decide)) (fun h => hn (hcl 7 _ rfl h ⟨6, .data⟩ (by simp) rfl))⟩
            | 7, ho =>
              cases Option.some.inj ho
              have ev : a.tmps[42]? = some (.slice va us.length vc) := known_at ha hsz hlen hl 4 (by decide) (hd ⟨4, .data⟩ (by simp) rfl)
              have ev' : a.tmps[44]? = some (.slice (some ⟨nb, 0, none⟩) 1 1) := known_at ha hsz hlen hl 6 (by decide) (hd ⟨6, .data⟩ (by simp) rfl)
              have hb := hB.resolve_left hn
              obtain ⟨G1, G2⟩ := hG (hd ⟨6, .data⟩ (by simp) rfl) hn
              refine op23 w' (.tmp 42) (.tmp 44) rfl (u := u) (by simpa [Act.eval] using evalS ev) (by simpa [Act.eval] using evalS ev') (ownU_keep Ow fun g hg => hb.block g (own_lt Ow hg)) G1 hus (Nat.le_trans hW.le hb.size) ?_
              intro xa' xc' w6 O6 K6 P6
              exact ⟨_, xa', nb, xc', by rw [ha]; exact putAll_put A 38 7 l _ (by omega) (by omega), by rw [List.length_set]; exact hlen, set_known' (val' := pusV p us u va xa' vc nb xc') hlen (by decide) hl (fun j hj hne => match j, hj, hne with | 0, _, _ => rfl | 1, _, _ => rfl | 2, _, _ => rfl | 3, _, _ => rfl | 4, _, _ => rfl | 5, _, _ => rfl | 6, _, _ => rfl | 7, _, hne => absurd rfl hne | 8, _, _ => rfl | 9, _, _ => rfl | j + 10, _, _ => rfl), .inl (.inl rfl), fun h => absurd (h.resolve_left (by decide)) (fun h => hn (hcl 10 _ rfl h ⟨7, .data⟩ (by simp) rfl)), fun _ h' => absurd (.inl rfl) h', fun _ _ => ⟨(K6.block p (Nat.lt_of_lt_of_le hpl hb.size) (fun e => (hown p e).2 rfl)).trans ((hb.block p hpl).trans Ep), O6, (Kw.of_below hb).trans (Kw.of_kp K6 fun g hg => (hown g hg).1), fun q hq => (P6 q hq).elim (hown q) (fun h => ⟨fun hA => by have := hW.lt q hA; have := hb.size; omega, by have := hb.size; omega⟩)⟩⟩
            | 8, ho =>
              cases Option.some.inj ho
              have ev : a.tmps[38]? = some (.pointer (some ⟨p, 0, none⟩)) := known_at ha hsz hlen hl 0 (by decide) (hd ⟨0, .data⟩ (by simp) rfl)
              refine wp_value (w' := w') (v := .pointer (some ⟨p, 0, none⟩)) (by simp [execOp, ev, go_sem]) ?_
              exact ⟨_, xa, nb, xc, by rw [ha]; exact putAll_put A 38 8 l _ (by omega) (by omega), by rw [List.length_set]; exact hlen, set_known hlen (by decide) hl, hB.imp_left .inr, fun h => hQ (h.resolve_left (by decide)), fun h h' => hG (h.resolve_left (by decide)) (fun k => h' (.inr k)), fun h h' => hP (h.resolve_left (by decide)) (fun k => h' (.inr k))⟩
            | 9, ho =>
              cases Option.some.inj ho
              have ev : a.tmps[46]? = some (.pointer (some ⟨p, 0, none⟩)) := known_at ha hsz hlen hl 8 (by decide) (hd ⟨8, .data⟩ (by simp) rfl)
              refine wp_value (w' := w') (v := .pointer (some ⟨p, 1, none⟩)) (by simp [execOp, ev, go_sem]) ?_
              exact ⟨_, xa, nb, xc, by rw [ha]; exact putAll_put A 38 9 l _ (by omega) (by omega), by rw [List.length_set]; exact hlen, set_known hlen (by decide) hl, hB.imp_left .inr, fun h => hQ (h.resolve_left (by decide)), fun h h' => hG (h.resolve_left (by decide)) (fun k => h' (.inr k)), fun h h' => hP (h.resolve_left (by decide)) (fun k => h' (.inr k))⟩
            | 10, ho =>
              cases Option.some.inj ho
              have ev : a.tmps[47]? = some (.pointer (some ⟨p, 1, none⟩)) := known_at ha hsz hlen hl 9 (by decide) (hd ⟨9, .data⟩ (by simp) rfl)
              have ev' : a.tmps[45]? = some (.slice xa (us.length + 1) xc) := known_at ha hsz hlen hl 7 (by decide) (hd ⟨7, .data⟩ (by simp) rfl)
              obtain ⟨E6, O6, K6, H6⟩ := hP (hd ⟨7, .data⟩ (by simp) rfl) hn
              have hput := hW.put E6 (l := us ++ [u]) (by simp) O6 K6 H6
              obtain ⟨z0, z1, z2, zf⟩ := wk3 E6
              have zf1 := zf 1
              refine wp_skipR (w' := w'.setCell ⟨p, 1, none⟩ (.slice xa (us.length + 1) xc)) (by simp [execOp, Act.eval, ev, ev', go_sem, z1, zf1]) ?_
              exact ⟨l, xa, nb, xc, ha, hlen, fun j hj h => hl j hj (h.resolve_left (by omega)), .inl (.inr (hd ⟨7, .data⟩ (by simp) rfl)), fun _ => hput, fun _ h' => absurd (Or.inr (hd ⟨7, .data⟩ (by simp) rfl)) h', fun _ h' => absurd (.inl rfl) h'⟩
            | i + 11, ho => simp at ho
          case done =>
            rintro D a w' ⟨l, xa, nb, xc, ha, hlen, hl, hB, hQ, hG, hP⟩ hall
            obtain ⟨v0, v1, v2, v3, v4, v5, v6, v7, v8, v9, rfl⟩ := pusV_list hlen
            obtain ⟨W9, K9⟩ := hQ (hall 10 (by decide))
            subst hA
            have hfr : a = _ := ha
            rw [hfr]
            clear hfr ha
            simp only [putAll, List.take_succ_cons, List.take_zero, List.drop_succ_cons, List.drop_zero, List.cons_append, List.nil_append, List.length_cons, List.length_nil]
            clear hl hB hG hP hQ hall
            go_wp2
            go_ret
            exact ⟨(Kw.of_below B09).trans K9, by first | exact ⟨rfl, W9⟩ | (rw [hv]; exact ⟨rfl, W9⟩)⟩
      · have hv : setR sl E t ps = .error ps := by unfold setR; rw [hnm]; exact if_neg (fun h => h.elim h4 (fun h => h3 h.1))
        have e3 : (k == 3) = false := by simp [h3]
        have e4 : (k == 4) = false := by simp [h4]
        have f3 : (k != 3) = true := by simp [h3]
        have f4 : (k != 4) = true := by simp [h4]
        clear hnm
        go_wp2_with fail
        refine (fail_any (h.bel B05) ps).mono ?_
        rintro e w8 ⟨rfl, h8, K8⟩
        go_wp2
        go_ret
        exact ⟨(Kw.of_below B05).trans K8, by first | exact ⟨rfl, us, h8⟩ | (rw [hv]; exact ⟨rfl, us, h8⟩)⟩
end Go.Proofs.Ytoghhjljmhdioaa
