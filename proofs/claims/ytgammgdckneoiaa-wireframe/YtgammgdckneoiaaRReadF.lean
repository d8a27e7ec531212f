/- The document's own ReadFrame: the same answer, for all bytes. -/
import Derived.Test.YtgammgdckneoiaaReadF
import Derived.Deep.QuietTactic
import Derived.BigQuiet
import Derived.Deep.RegionWith
import Derived.Deep.CutRange
namespace Go.Proofs.Ytgammgdckneoiaa
open Go.RowKit

theorem rreadF_short {a : Option Addr} {len cap : Nat} {xs : List Int} {w : World} (_ : IsB w a len cap xs) (hl : len < 8) :
    Calls Try.prog 28 #[.slice a len cap] w fun e w' => e = .returned (.tuple #[.slice none 0 0, .int .i64 0, .int .i64 10]) ∧ w = w' := by
  have hl' : (len : Int) < 8 := by omega
  go_enter Try.func28, Try.ntmps28
  go_wp2
  go_ret3
  exact ⟨rfl, rfl⟩

theorem wraps_i62 (n : Int) (h0 : 0 ≤ n) (h1 : n < 2 ^ 62) : IntKind.i64.wrap n = n := by rw [IntKind.wrap_i64]; omega
theorem be64 (c0 c1 c2 c3 : Nat) (h0 : c0 < 256) (h1 : c1 < 256) (h2 : c2 < 256) (h3 : c3 < 256) :
    bits .or .i64 (bits .or .i64 (bits .or .i64 ((c0 : Int) * 16777216) ((c1 : Int) * 65536)) ((c2 : Int) * 256)) (c3 : Int) = (be c0 c1 c2 c3 : Int) := by
  rw [bits_join .i64 62 (by decide) wraps_i62 24 ((c0 : Int) * 16777216) ((c1 : Int) * 65536) (by omega) (by omega) (by omega) (by omega) (by omega) (by omega),
    bits_join .i64 62 (by decide) wraps_i62 16 ((c0 : Int) * 16777216 + (c1 : Int) * 65536) ((c2 : Int) * 256) (by omega) (by omega) (by omega) (by omega) (by omega) (by omega),
    bits_join .i64 62 (by decide) wraps_i62 8 ((c0 : Int) * 16777216 + (c1 : Int) * 65536 + (c2 : Int) * 256) (c3 : Int) (by omega) (by omega) (by omega) (by omega) (by omega) (by omega)]
  unfold be; omega

theorem rsum_to {a : Option Addr} {len cap s : Nat} {xs : List Int} {w : World} (h : IsB w a len cap xs) (hs : crc xs = s) :
    Calls Try.prog 30 #[.slice a len cap] w fun e w' => e = .returned (.int .u32 (s : Int)) ∧ w = w' := by
  subst hs; exact rsum_any h
theorem run_win4 (a : Option Addr) (len cap : Nat) (w : World) (h : 8 ≤ cap) :
    (Instr.slice 23 (.slice a len cap) (some (.int .i64 4)) (some (.int .i64 8)) none).run Try.prog w = .ok (.slice (winA a 4 cap) 4 (cap - 4)) w :=
  run_win a len cap 4 4 w h

theorem four_be (c0 c1 c2 c3 : Nat) (h1 : c1 < 256) (h2 : c2 < 256) (h3 : c3 < 256) : four (be c0 c1 c2 c3 : Int) = [(c0 : Int), (c1 : Int), (c2 : Int), (c3 : Int)] := by
  unfold four be
  congr 1
  · omega
  congr 1
  · omega
  congr 1
  · omega
  congr 1
  omega
theorem four_inj (a b : Nat) (ha : a < 4294967296) (hb : b < 4294967296) (h : four (a : Int) = four (b : Int)) : a = b := by
  unfold four at h
  simp only [List.cons.injEq, and_true] at h
  omega
theorem str_inj (xs ys : List Int) (hx : ∀ x ∈ xs, 0 ≤ x ∧ x < 256) (hy : ∀ x ∈ ys, 0 ≤ x ∧ x < 256) (h : (strOfNums xs).data.toList = (strOfNums ys).data.toList) : xs = ys := by
  have h2 : (xs.map fun n => UInt8.ofNat n.toNat) = ys.map fun n => UInt8.ofNat n.toNat := by
    rw [← strOfNums_data, ← strOfNums_data]; exact h
  clear h
  induction xs generalizing ys with
  | nil => cases ys with
    | nil => rfl
    | cons y ys => simp at h2
  | cons x xs ih => cases ys with
    | nil => simp at h2
    | cons y ys =>
      simp only [List.map_cons, List.cons.injEq] at h2
      obtain ⟨e1, e2⟩ := h2
      have a1 := hx x (by simp)
      have a2 := hy y (by simp)
      have e3 := congrArg UInt8.toNat e1
      simp only [UInt8.toNat_ofNat'] at e3
      rw [ih ys (fun z hz => hx z (by simp [hz])) (fun z hz => hy z (by simp [hz])) e2]
      congr 1
      omega

theorem eight_tail {w : World} {b off len cap n s : Nat} {c : Nat → Nat} {xs : List Int} (h8 : 8 ≤ len) (h : IsB w (some ⟨b, off, none⟩) len cap xs) (E : Eight w b off n s c) :
    (xs.drop 4).take 4 = [(c 4 : Int), (c 5 : Int), (c 6 : Int), (c 7 : Int)] := by
  have hs := h.size
  have hg : ∀ i, i < 8 → xs[i]? = some (c i : Int) := by
    intro i hi
    obtain ⟨b', off', hb, hc⟩ := h.cells (by omega)
    simp only [Option.some.injEq, Addr.mk.injEq, and_true] at hb
    obtain ⟨rfl, rfl⟩ := hb
    have e1 := hc i (by omega)
    rw [E.at0 i hi] at e1
    have e2 : (c i : Int) = xs.getD i 0 := by simpa using e1
    rw [e2, List.getElem?_eq_getElem (by omega)]
    simp [show i < xs.length by omega]
  apply List.ext_getElem?
  intro j
  by_cases hj : j < 4
  · rw [List.getElem?_take_of_lt hj, List.getElem?_drop, hg (4 + j) (by omega)]
    match j, hj with
    | 0, _ => rfl
    | 1, _ => rfl
    | 2, _ => rfl
    | 3, _ => rfl
  · rw [List.getElem?_eq_none (by simp; omega), List.getElem?_eq_none (by simp; omega)]

set_option maxRecDepth 100000 in
set_option maxHeartbeats 4000000 in
theorem rreadF_some (b off len cap n s : Nat) (c : Nat → Nat) (xs : List Int) (w : World) (h : IsB w (some ⟨b, off, none⟩) len cap xs) (h8 : 8 ≤ len) (hl : len ≤ 140737488500000) (E : Eight w b off n s c) :
    Calls Try.prog 28 #[.slice (some ⟨b, off, none⟩) len cap] w fun e w' => RT w' w.heap.size (rfr n s (xs.drop 8)) e ∧ Below w.heap.size w w' := by
  have hsz := h.size
  have hroom := h.room
  have hmost := h.most
  unfold maxLen at hmost
  have hl' : ¬ (len : Int) < 8 := by omega
  have i0 : (0 : Int) < (len : Int) := by omega
  have i1 : (1 : Int) < (len : Int) := by omega
  have i2 : (2 : Int) < (len : Int) := by omega
  have i3 : (3 : Int) < (len : Int) := by omega
  have k0 := E.at0 0 (by decide)
  have k1 := E.at0 1 (by decide)
  have k2 := E.at0 2 (by decide)
  have k3 := E.at0 3 (by decide)
  rw [Nat.add_zero] at k0
  have l0 := E.lt 0 (by decide)
  have l1 := E.lt 1 (by decide)
  have l2 := E.lt 2 (by decide)
  have l3 := E.lt 3 (by decide)
  have hnlt : n < 4294967296 := by rw [← E.size]; exact be_lt _ _ _ _ l0 l1 l2 l3
  have hbe := be64 (c 0) (c 1) (c 2) (c 3) l0 l1 l2 l3
  rw [E.size] at hbe
  have hdl : Hid ((xs.drop 8).length = len - 8) := by show _ = _; rw [List.length_drop, hsz]
  by_cases hz : n = 0
  · have hres : Hid (rfr n s (xs.drop 8) = ([], 0, 11)) := by show _ = _; unfold rfr; rw [if_pos hz]
    have hz' : ((n : Int) == 0) = true := by simp; omega
    go_enter Try.func28, Try.ntmps28
    go_wp2_with fail
    go_quiet (fail)
    go_wp2
    go_ret3
    exact ⟨by rw [hres.out]; exact RT.nil _ _ 11, below_drewN (Below.refl _ _) _⟩
  · have hz' : ((n : Int) == 0) = false := by simp; omega
    by_cases hs1 : 60000 < n
    · have hres : Hid (rfr n s (xs.drop 8) = ([], 0, 3)) := by show _ = _; unfold rfr; rw [if_neg hz, if_pos hs1]
      have hs1' : (60000 : Int) < (n : Int) := by omega
      go_enter Try.func28, Try.ntmps28
      go_wp2_with fail
      go_quiet (fail)
      go_wp2
      go_ret3
      exact ⟨by rw [hres.out]; exact RT.nil _ _ 3, below_drewN (Below.refl _ _) _⟩
    · have hs1' : ¬ (60000 : Int) < (n : Int) := by omega
      by_cases hs2 : len < 8 + n
      · have hres : Hid (rfr n s (xs.drop 8) = ([], 0, 10)) := by show _ = _; unfold rfr; rw [if_neg hz, if_neg hs1, if_pos (by rw [hdl.out]; omega)]
        have hs2' : (len : Int) - 8 < (n : Int) := by omega
        go_enter Try.func28, Try.ntmps28
        go_wp2_with fail
        go_quiet (fail)
        go_wp2
        go_ret3
        exact ⟨by rw [hres.out]; exact RT.nil _ _ 10, below_drewN (Below.refl _ _) _⟩
      · have hs2' : ¬ (len : Int) - 8 < (n : Int) := by omega
        have hw := fun w => run_win8 (some ⟨b, off, none⟩) len cap n w (by omega)
        have hw4 := fun w => run_win4 (some ⟨b, off, none⟩) len cap w (by omega)
        obtain ⟨s', hs'⟩ : ∃ s', crc ((xs.drop 8).take n) = s' := ⟨_, rfl⟩
        have hs'lt : s' < 4294967296 := by rw [← hs']; exact crc_lt _
        obtain ⟨D, hD⟩ : ∃ D, Hid (D = decide (s' ≠ s)) := ⟨_, rfl⟩
        have hcmp : (!(strOfNums (four (s' : Int))).toList == (strOfNums ((xs.drop 4).take 4)).toList) = D := by
          have m0 := E.lt 4 (by decide)
          have m1 := E.lt 5 (by decide)
          have m2 := E.lt 6 (by decide)
          have m3 := E.lt 7 (by decide)
          have hx4 : (xs.drop 4).take 4 = four (s : Int) := by rw [← E.sum, four_be _ _ _ _ m1 m2 m3]; exact eight_tail h8 h E
          have hslt : s < 4294967296 := by rw [← E.sum]; exact be_lt _ _ _ _ m0 m1 m2 m3
          rw [hD.out, hx4]
          by_cases e : s' = s
          · simp [e]
          · have : (strOfNums (four (s' : Int))).toList ≠ (strOfNums (four (s : Int))).toList := fun hh => e (four_inj s' s hs'lt hslt (str_inj _ _ (four_byte _ (by omega) (by omega)) (four_byte _ (by omega) (by omega)) (by rw [Go.ByteArray.toList_eq, Go.ByteArray.toList_eq] at hh; exact hh)))
            have hb : ((strOfNums (four (s' : Int))).toList == (strOfNums (four (s : Int))).toList) = false := by simpa using this
            rw [hb]
            simp [e]
        obtain ⟨X4, hX4⟩ : ∃ X4, (xs.drop 4).take 4 = X4 := ⟨_, rfl⟩
        obtain ⟨Y, hY⟩ : ∃ Y, (xs.drop 8).take n = Y := ⟨_, rfl⟩
        have hHX := h.window 4 4 (by omega)
        have hHY := h.window 8 n (by omega)
        have hYb := hHY.byte
        have hYl := hHY.size
        rw [hX4] at hHX hcmp
        have Hcmp : Hid ((!(strOfNums (four (s' : Int))).toList == (strOfNums X4).toList) = D) := hcmp
        clear hcmp
        rw [hY] at hHY hs' hYb hYl
        have HX4 : Hid ((xs.drop 4).take 4 = X4) := hX4
        have HY : Hid ((xs.drop 8).take n = Y) := hY
        have Hs' : Hid (crc Y = s') := hs'
        clear hX4 hY hs'
        go_enter Try.func28, Try.ntmps28
        go_wp2_with fail
        go_quiet (fail)
        go_wp2_with (at_builtin; refine app_bytes _ rfl _ _ rfl w.heap.size _ 0 [] rfl (World.ownsRow_nil _ _ _ _) _ _ _ _ rfl (hHY.drewN _) (by omega) (by omega) (Nat.le_refl _) ?_)
        intro v w2 hown2 hb2
        have hO2 := ownB_of hown2 hYb
        have hbw := (below_drewN (Below.refl w.heap.size w) _).trans hb2
        have hXw := hHX.below hbw
        clear hown2 hb2
        obtain ⟨av, cv, hv, hBv⟩ := hO2.2
        rw [hYl] at hv hBv
        rw [hv] at hO2 ⊢
        go_upto_region 12 with fail
        have hOd : OwnB w2.drew w.heap.size (.slice av n cv) Y := OwnB.below hO2 (Below.refl _ _).drew
        have hBd : IsB w2.drew av n cv Y := hBv.drewN 1
        have hXd : IsB w2.drew (winA (some ⟨b, off, none⟩) 4 cap) 4 (cap - 4) X4 := hXw.drewN 1
        have hbd : Below w.heap.size w w2.drew := hbw.drew
        have sX := hXd.str
        go_cut [54] from 47 to 54 (fun v wx => v = .bool D ∧ Hid (Below w.heap.size w wx ∧ OwnB wx w.heap.size (.slice av n cv) Y))
        case first =>
          clear hBv hO2 hbw hXw hHX hHY h
          refine wp_region_any (by kernel_rfl) ?_
          try (change wpAny _ _ _ _ _ _ _ (World.drew _))
          refine wpAny_take (i := 0) (oi := ⟨some 47, _, _, _, _, _⟩) (v := ?vf0) rfl (by kernel_rfl) (by kernel_rfl) (by kernel_rfl) (fun _ _ _ h => h) (Or.inl ⟨by rfl, ?yf0⟩) ?rf0
          case yf0 => (intro w; go_simp; all_goals with_reducible rfl)
          try simp only [Act.put, List.setIfInBounds_toArray, List.set_cons_zero, List.set_cons_succ]
          refine wpAny_take (i := 4) (oi := ⟨some 51, _, _, _, _, _⟩) (v := ?vf4) rfl (by kernel_rfl) (by kernel_rfl) (by kernel_rfl) (fun _ _ _ h => h) (Or.inl ⟨by rfl, ?yf4⟩) ?rf4
          case yf4 => (intro w; go_simp; all_goals with_reducible rfl)
          try simp only [Act.put, List.setIfInBounds_toArray, List.set_cons_zero, List.set_cons_succ]
          refine wpAny_take (i := 5) (oi := ⟨some 52, _, _, _, _, _⟩) (v := ?vf5) rfl (by kernel_rfl) (by kernel_rfl) (by kernel_rfl) (fun _ _ _ h => h) (Or.inl ⟨by rfl, ?yf5⟩) ?rf5
          case yf5 => (intro w; go_simp; all_goals with_reducible rfl)
          try simp only [Act.put, List.setIfInBounds_toArray, List.set_cons_zero, List.set_cons_succ]
          refine wpAny_ready (rs := [1, 6]) (by kernel_rfl) (by simp) ?_
          refine AllReady.cons (o := ⟨some 48, _, _, _, _, _⟩) rfl (fun K hK => ?_) (AllReady.cons (o := ⟨some 53, _, _, _, _, _⟩) rfl (fun K hK => ?_) AllReady.nil)
          · go_simp
            go_wp2_with (go_at_call 30; refine (rsum_to hBd Hs'.out).mono ?_; rintro e wq ⟨rfl, rfl⟩)
            try simp only [Act.put, List.setIfInBounds_toArray, List.set_cons_zero, List.set_cons_succ]
            refine wpAny_ready (rs := [2, 6]) (by kernel_rfl) (by simp) ?_
            refine AllReady.cons (o := ⟨some 49, _, _, _, _, _⟩) rfl (fun K hK => ?_) (AllReady.cons (o := ⟨some 53, _, _, _, _, _⟩) rfl (fun K hK => ?_) AllReady.nil)
            · go_simp
              go_wp2_with (go_at_call 36; refine (four_any s' _ hs'lt).mono ?_; rintro e w4 ⟨rfl, hown4, hb4⟩; have sR := (isB_own hown4 (four_byte _ (by omega) (by omega))).str; rw [show w2.drew.heap.size = w2.heap.size from rfl] at sR; have sX4 := (hXd.below hb4).str; have hO4 := OwnB.below hOd hb4; have hb4' := below_size hbd (Nat.le_refl _) hb4; clear hown4 hb4)
              try simp only [Act.put, List.setIfInBounds_toArray, List.set_cons_zero, List.set_cons_succ]
              refine wpAny_ready (rs := [3, 6]) (by kernel_rfl) (by simp) ?_
              refine AllReady.cons (o := ⟨some 50, _, _, _, _, _⟩) rfl (fun K hK => ?_) (AllReady.cons (o := ⟨some 53, _, _, _, _, _⟩) rfl (fun K hK => ?_) AllReady.nil)
              · go_simp
                refine hK _ _ ?_
                clear hK K
                try simp only [Act.put, List.setIfInBounds_toArray, List.set_cons_zero, List.set_cons_succ]
                refine wpAny_ready (rs := [6]) (by kernel_rfl) (by simp) ?_
                refine AllReady.cons (o := ⟨some 53, _, _, _, _, _⟩) rfl (fun K hK => ?_) AllReady.nil
                go_simp
                refine hK _ _ ?_
                clear hK K
                try simp only [Act.put, List.setIfInBounds_toArray, List.set_cons_zero, List.set_cons_succ]
                refine wpAny_take (i := 7) (oi := ⟨some 54, _, _, _, _, _⟩) (v := ?vp7) rfl (by kernel_rfl) (by kernel_rfl) (by kernel_rfl) (fun _ _ _ h => h) (Or.inl ⟨by rfl, ?yp7⟩) ?rp7
                case yp7 => (intro w; go_simp; all_goals with_reducible rfl)
                try simp only [Act.put, List.setIfInBounds_toArray, List.set_cons_zero, List.set_cons_succ]
                refine wpAny_done (by kernel_rfl) ?_ _
                go_wp2_with fail
                go_meet
                case rel => exact ⟨congrArg Value.bool Hcmp.out, hb4', hO4⟩
              · go_simp
                refine hK _ _ ?_
                clear hK K
                try simp only [Act.put, List.setIfInBounds_toArray, List.set_cons_zero, List.set_cons_succ]
                refine wpAny_ready (rs := [3]) (by kernel_rfl) (by simp) ?_
                refine AllReady.cons (o := ⟨some 50, _, _, _, _, _⟩) rfl (fun K hK => ?_) AllReady.nil
                go_simp
                refine hK _ _ ?_
                clear hK K
                try simp only [Act.put, List.setIfInBounds_toArray, List.set_cons_zero, List.set_cons_succ]
                refine wpAny_take (i := 7) (oi := ⟨some 54, _, _, _, _, _⟩) (v := ?vq7) rfl (by kernel_rfl) (by kernel_rfl) (by kernel_rfl) (fun _ _ _ h => h) (Or.inl ⟨by rfl, ?yq7⟩) ?rq7
                case yq7 => (intro w; go_simp; all_goals with_reducible rfl)
                try simp only [Act.put, List.setIfInBounds_toArray, List.set_cons_zero, List.set_cons_succ]
                refine wpAny_done (by kernel_rfl) ?_ _
                go_wp2_with fail
                go_meet
                case rel => exact ⟨congrArg Value.bool Hcmp.out, hb4', hO4⟩
            · go_simp
              refine hK _ _ ?_
              clear hK K
              try simp only [Act.put, List.setIfInBounds_toArray, List.set_cons_zero, List.set_cons_succ]
              refine wpAny_ready (rs := [2]) (by kernel_rfl) (by simp) ?_
              refine AllReady.cons (o := ⟨some 49, _, _, _, _, _⟩) rfl (fun K hK => ?_) AllReady.nil
              go_simp
              go_wp2_with (go_at_call 36; refine (four_any s' _ hs'lt).mono ?_; rintro e w4 ⟨rfl, hown4, hb4⟩; have sR := (isB_own hown4 (four_byte _ (by omega) (by omega))).str; rw [show w2.drew.heap.size = w2.heap.size from rfl] at sR; have sX4 := (hXd.below hb4).str; have hO4 := OwnB.below hOd hb4; have hb4' := below_size hbd (Nat.le_refl _) hb4; clear hown4 hb4)
              try simp only [Act.put, List.setIfInBounds_toArray, List.set_cons_zero, List.set_cons_succ]
              refine wpAny_ready (rs := [3]) (by kernel_rfl) (by simp) ?_
              refine AllReady.cons (o := ⟨some 50, _, _, _, _, _⟩) rfl (fun K hK => ?_) AllReady.nil
              go_simp
              refine hK _ _ ?_
              clear hK K
              try simp only [Act.put, List.setIfInBounds_toArray, List.set_cons_zero, List.set_cons_succ]
              refine wpAny_take (i := 7) (oi := ⟨some 54, _, _, _, _, _⟩) (v := ?vr7) rfl (by kernel_rfl) (by kernel_rfl) (by kernel_rfl) (fun _ _ _ h => h) (Or.inl ⟨by rfl, ?yr7⟩) ?rr7
              case yr7 => (intro w; go_simp; all_goals with_reducible rfl)
              try simp only [Act.put, List.setIfInBounds_toArray, List.set_cons_zero, List.set_cons_succ]
              refine wpAny_done (by kernel_rfl) ?_ _
              go_wp2_with fail
              go_meet
              case rel => exact ⟨congrArg Value.bool Hcmp.out, hb4', hO4⟩
          · go_simp
            refine hK _ _ ?_
            clear hK K
            try simp only [Act.put, List.setIfInBounds_toArray, List.set_cons_zero, List.set_cons_succ]
            refine wpAny_ready (rs := [1]) (by kernel_rfl) (by simp) ?_
            refine AllReady.cons (o := ⟨some 48, _, _, _, _, _⟩) rfl (fun K hK => ?_) AllReady.nil
            go_simp
            go_wp2_with (go_at_call 30; refine (rsum_to hBd Hs'.out).mono ?_; rintro e wq ⟨rfl, rfl⟩)
            try simp only [Act.put, List.setIfInBounds_toArray, List.set_cons_zero, List.set_cons_succ]
            refine wpAny_ready (rs := [2]) (by kernel_rfl) (by simp) ?_
            refine AllReady.cons (o := ⟨some 49, _, _, _, _, _⟩) rfl (fun K hK => ?_) AllReady.nil
            go_simp
            go_wp2_with (go_at_call 36; refine (four_any s' _ hs'lt).mono ?_; rintro e w4 ⟨rfl, hown4, hb4⟩; have sR := (isB_own hown4 (four_byte _ (by omega) (by omega))).str; rw [show w2.drew.heap.size = w2.heap.size from rfl] at sR; have sX4 := (hXd.below hb4).str; have hO4 := OwnB.below hOd hb4; have hb4' := below_size hbd (Nat.le_refl _) hb4; clear hown4 hb4)
            try simp only [Act.put, List.setIfInBounds_toArray, List.set_cons_zero, List.set_cons_succ]
            refine wpAny_ready (rs := [3]) (by kernel_rfl) (by simp) ?_
            refine AllReady.cons (o := ⟨some 50, _, _, _, _, _⟩) rfl (fun K hK => ?_) AllReady.nil
            go_simp
            refine hK _ _ ?_
            clear hK K
            try simp only [Act.put, List.setIfInBounds_toArray, List.set_cons_zero, List.set_cons_succ]
            refine wpAny_take (i := 7) (oi := ⟨some 54, _, _, _, _, _⟩) (v := ?vs7) rfl (by kernel_rfl) (by kernel_rfl) (by kernel_rfl) (fun _ _ _ h => h) (Or.inl ⟨by rfl, ?ys7⟩) ?rs7
            case ys7 => (intro w; go_simp; all_goals with_reducible rfl)
            try simp only [Act.put, List.setIfInBounds_toArray, List.set_cons_zero, List.set_cons_succ]
            refine wpAny_done (by kernel_rfl) ?_ _
            go_wp2_with fail
            go_meet
            case rel => exact ⟨congrArg Value.bool Hcmp.out, hb4', hO4⟩
        case rest =>
          obtain ⟨rfl, hH⟩ := hcut
          obtain ⟨hbc, hOc⟩ := hH.out
          clear hH sX hXd hBd hOd hbd hBv hO2 hbw hXw Hcmp
          by_cases e : s' = s
          · have hres : Hid (rfr n s (xs.drop 8) = (Y, 8 + n, 0)) := by show _ = _; unfold rfr; rw [if_neg hz, if_neg hs1, if_neg (by rw [hdl.out]; omega), HY.out, if_neg (by rw [Hs'.out]; simpa using e)]
            have hD' : D = false := by rw [hD.out]; simp [e]
            rw [hD']
            clear hD' hD
            go_wp2
            go_ret3
            exact ⟨by rw [hres.out]; exact ⟨_, by simp, hOc⟩, hbc⟩
          · have hres : Hid (rfr n s (xs.drop 8) = ([], 0, 12)) := by show _ = _; unfold rfr; rw [if_neg hz, if_neg hs1, if_neg (by rw [hdl.out]; omega), HY.out, if_pos (by rw [Hs'.out]; exact e)]
            have hD' : D = true := by rw [hD.out]; simp [e]
            rw [hD']
            clear hD' hD
            go_wp2
            go_ret3
            exact ⟨by rw [hres.out]; exact RT.nil _ _ 12, hbc⟩
end Go.Proofs.Ytgammgdckneoiaa
