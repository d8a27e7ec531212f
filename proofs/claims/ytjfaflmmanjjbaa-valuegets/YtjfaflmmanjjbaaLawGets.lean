/- The law ValueGets. -/
import Derived.Test.YtjfaflmmanjjbaaSpoil
import Derived.Test.YtjfaflmmanjjbaaCanon
namespace Go.Proofs.Ytjfaflmmanjjbaa
open Go.RowKit
set_option maxRecDepth 100000
/-- What Get answers. -/
def getV (xs : List Int) : Int × List (Int × Int) × List Int × Int := if okG xs = true then ((objR (some xs)).1, (objR (some xs)).2.1, (objR (some xs)).2.2.1, 0) else (0, [], [], 11)
theorem getV_yes {xs : List Int} (h : okG xs = true) : getV xs = ((objR (some xs)).1, (objR (some xs)).2.1, (objR (some xs)).2.2.1, 0) := if_pos h
theorem getV_no {xs : List Int} (h : okG xs = false) : getV xs = (0, [], [], 11) := if_neg (by simp [h])
def GetsTo (w : World) (c : Int) (vs : List (Int × Int)) (bs : List Int) (r : Int) (e : Ending) (w' : World) : Prop := ∃ va vn vc ba bn bc, e = .returned (.tuple #[.agg #[.int .i64 c, .slice va vn vc, .slice ba bn bc], .int .i64 r]) ∧ OwnV w' w.heap.size (.slice va vn vc) vs ∧ OwnB w' w.heap.size (.slice ba bn bc) bs ∧ Below w.heap.size w w'
theorem gets_of {w : World} {xs : List Int} {c r : Int} {vs : List (Int × Int)} {bs : List Int} (hG : Hid (getV xs = (c, vs, bs, r))) {e : Ending} {w' : World} (h : GetP w xs e w') : GetsTo w c vs bs r e w' := by
  obtain ⟨B, ⟨ok, vv, bv, rfl, V, O⟩ | ⟨no, rfl⟩⟩ := h
  · have h1 := hG.out
    rw [getV_yes ok] at h1
    simp only [Prod.mk.injEq] at h1
    obtain ⟨rfl, rfl, rfl, rfl⟩ := h1
    obtain ⟨va, vn, vc, rfl⟩ := V.shape'
    obtain ⟨ba, bn, bc, rfl⟩ := O.shape'
    exact ⟨_, _, _, _, _, _, rfl, V, O, B⟩
  · have h1 := hG.out
    rw [getV_no no] at h1
    simp only [Prod.mk.injEq] at h1
    obtain ⟨rfl, rfl, rfl, rfl⟩ := h1
    exact ⟨_, _, _, _, _, _, rfl, ownV_nil _ _, ownB_nil _ _, B⟩
theorem get_to {w : World} {a : Option Addr} {n k : Nat} {xs : List Int} (I : IsB w a n k xs) (hl : n ≤ 140737488500000) {c r : Int} {vs : List (Int × Int)} {bs : List Int} (hG : Hid (getV xs = (c, vs, bs, r))) : Calls Try.prog 25 #[.slice a n k] w fun e w' => GetsTo w c vs bs r e w' :=
  (get_any I hl).mono fun _ _ h => gets_of hG h
theorem rget_to {w : World} {a : Option Addr} {n k : Nat} {xs : List Int} (I : IsB w a n k xs) (hl : n ≤ 140737488351232) {c r : Int} {vs : List (Int × Int)} {bs : List Int} (hG : Hid (getV xs = (c, vs, bs, r))) : Calls Try.prog 27 #[.slice a n k] w fun e w' => GetsTo w c vs bs r e w' :=
  (rget_any I hl).mono fun _ _ h => gets_of hG h
theorem getV_cls {xs : List Int} : -9223372036854775808 ≤ (getV xs).1 ∧ (getV xs).1 ≤ 9223372036854775807 := by
  unfold getV
  split
  · next h =>
    unfold okG at h
    rw [Bool.and_eq_true] at h
    have := (okO_parts h.2).1
    dsimp only
    omega
  · dsimp only; omega
set_option maxHeartbeats 8000000 in
theorem gets_law {w : World} {a : Option Addr} {n k : Nat} {xs : List Int} (I : IsB w a n k xs) (hk : k ≤ 140737488351232) :
    Calls Try.prog 5 #[.slice a n k] w fun e w' => e = .returned (.bool true) ∧ Below w.heap.size w w' := by
  have hroom := I.room
  have hsz := I.size
  obtain ⟨c, vs, bs, r, hG⟩ : ∃ c vs bs r, Hid (getV xs = (c, vs, bs, r)) := ⟨_, _, _, _, rfl⟩
  have hcls := getV_cls (xs := xs)
  rw [hG.out] at hcls
  dsimp only at hcls
  go_enter Try.func5, Try.ntmps5
  go_wp2_with fail
  refine (lent_any I (by omega)).mono ?_
  rintro e w1 ⟨rfl, L1, B1⟩
  have I1 := I.below B1
  have F1 : IsB w1 (some ⟨w.heap.size, 0, none⟩) n (n + 8) xs := L1.front (ys := pad) hsz
  have hg1 : w.heap.size < w1.heap.size := L1.block (by omega)
  go_wp2_with fail
  refine (get_to F1 (by omega) hG).mono ?_
  rintro e w2 ⟨va, vn, vc, ba, bn, bc, rfl, V2, O2, B2⟩
  have L2 := L1.below B2
  have I2 := I1.below B2
  have B2' := below_size B1 B1.size B2
  have x2 : IsO w2 c va vn vc ba bn bc vs bs := ⟨hcls, V2.isV, O2.isB⟩
  clear I1 F1 B1
  have b3 : Below w2.heap.size w2 (w2.alloc (objB c (.slice va vn vc) (.slice ba bn bc))) := box_below
  have E3 := new1 w2 (objB c (.slice va vn vc) (.slice ba bn bc))
  have L3 := L2.below b3
  have I3 := I2.below b3
  have x3 := x2.below b3
  have N3 := below_size B2 B2.size b3
  have L1k := L1
  have V3 := V2.below b3
  have O3 := O2.below b3
  have B3' := below_size B2' B2'.size b3
  unfold objB at E3 L3 I3 x3 V3 O3 B3' N3
  clear L2 I2 x2 V2 O2 b3 B2 L1
  go_wp2_with fail
  generalize w2.alloc (.cells #[.int .i64 c, .slice va vn vc, .slice ba bn bc] 27) = w3 at *
  replace E3 : w3.heap[w2.heap.size]? = some (objB c (.slice va vn vc) (.slice ba bn bc)) := E3
  generalize w2.heap.size = px at *
  refine (rget_to I3 (by omega) hG).mono ?_
  rintro e w4 ⟨ya, yn, yc, da, dn, dc, rfl, V4, O4, B4⟩
  have L4 := L3.below B4
  have I4 := I3.below B4
  have x4 := x3.below B4
  have Vx4 := V3.below B4
  have Ox4 := O3.below B4
  have E4 := (B4.block _ (lt_of_block E3)).trans E3
  have B4' := below_size B3' B3'.size B4
  have hVx := V3.lt
  have hOx := O3.lt
  have y4 : IsO w4 c ya yn yc da dn dc vs bs := ⟨hcls, V4.isV, O4.isB⟩
  have b5 : Below w4.heap.size w4 (w4.alloc (objB c (.slice ya yn yc) (.slice da dn dc))) := box_below
  have E5 := old1 E4 (objB c (.slice ya yn yc) (.slice da dn dc))
  have F5 := new1 w4 (objB c (.slice ya yn yc) (.slice da dn dc))
  have L5 := L4.below b5
  have I5 := I4.below b5
  have x5 := x4.below b5
  have N4 := below_size N3 N3.size B4
  have N5 := below_size N4 N4.size b5
  have y5 := y4.below b5
  have V5 := V4.below b5
  have O5 := O4.below b5
  have Vx5 := Vx4.below b5
  have Ox5 := Ox4.below b5
  have B5' := below_size B4' B4'.size b5
  have hpx := lt_of_block E3
  have sz4 := B4.size
  unfold objB at E5 F5 L5 I5 x5 y5 B5' V5 O5 Vx5 Ox5 N5
  clear L3 I3 x3 E3 B3' L4 I4 x4 y4 E4 B4' V4 O4 b5 B4 V3 O3 Vx4 Ox4 N3 N4
  obtain ⟨y0, y1, y2, yf⟩ := obj_cells (c := c) E5
  go_wp2_with fail
  generalize w4.alloc (.cells #[.int .i64 c, .slice ya yn yc, .slice da dn dc] 27) = w5 at *
  replace E5 : w5.heap[px]? = some (objB c (.slice va vn vc) (.slice ba bn bc)) := E5
  replace F5 : w5.heap[w4.heap.size]? = some (objB c (.slice ya yn yc) (.slice da dn dc)) := F5
  have hpy : w3.heap.size ≤ w4.heap.size := sz4
  refine (rsame_any x5 y5).mono ?_
  rintro e w6 ⟨rfl, B6⟩
  rw [show alike c c vs vs bs bs = true by simp [alike]]
  have E6 := (B6.block _ (lt_of_block E5)).trans E5
  have F6 := (B6.block _ (lt_of_block F5)).trans F5
  have L6 := L5.below B6
  have I6 := I5.below B6
  have N6 := below_size N5 N5.size B6
  have V6 := V5.below B6
  have O6 := O5.below B6
  have Vx6 := Vx5.below B6
  have Ox6 := Ox5.below B6
  have B6' := below_size B5' B5'.size B6
  clear y0 y1 y2 yf E5 F5 L5 I5 x5 y5 V5 O5 Vx5 Ox5 B5' B6 N5
  go_wp2_with fail
  refine (kept_true L6 I6 (by omega)).mono ?_
  rintro e w7 ⟨rfl, q7, rfl⟩
  have B7 : Below w6.heap.size w6 (w6.drewN q7) := below_drewN (Below.refl _ _) _
  have E7 := (B7.block _ (lt_of_block E6)).trans E6
  have F7 := (B7.block _ (lt_of_block F6)).trans F6
  have V7 := V6.below B7
  have O7 := O6.below B7
  have Vx7 := Vx6.below B7
  have Ox7 := Ox6.below B7
  have N7 := below_size N6 N6.size B7
  have B7' := below_size B6' B6'.size B7
  clear E6 F6 L6 I6 V6 O6 Vx6 Ox6 N6 B6' B7
  generalize w6.drewN q7 = w7 at *
  obtain ⟨y0, y1, y2, yf⟩ := obj_cells E7
  go_wp2_with fail
  refine (spoil_obj Vx7 Ox7).mono ?_
  rintro e w8 ⟨rfl, K8⟩
  have F8 := (K8.block _ (lt_of_block F7) (fun e => by have := (hVx _ e.symm).2; omega) (fun e => by have := (hOx _ e.symm).2; omega)).trans F7
  have V8 := V7.same (fun g hg => K8.block g (V7.lt g hg).2 (fun e => by have h1 := (hVx _ e.symm).2; have h2 := (V7.lt g hg).1; omega) (fun e => by have h1 := (hOx _ e.symm).2; have h2 := (V7.lt g hg).1; omega))
  have O8 := O7.same (fun g hg => K8.block g (O7.lt g hg).2 (fun e => by have h1 := (hVx _ e.symm).2; have h2 := (O7.lt g hg).1; omega) (fun e => by have h1 := (hOx _ e.symm).2; have h2 := (O7.lt g hg).1; omega))
  have N8 := K8.below N7 N7.size (fun g hg => (hVx g hg).1) (fun g hg => (hOx g hg).1)
  have B8 := K8.below B7' B7'.size (fun g hg => by have := (hVx g hg).1; omega) (fun g hg => by have := (hOx g hg).1; omega)
  have L8 := L1k.below N8
  have I8 := I.below B8
  clear y0 y1 y2 yf E7 F7 V7 O7 Vx7 Ox7 K8 N7 B7' L1k
  go_wp2_with fail
  refine (kept_true L8 I8 (by omega)).mono ?_
  rintro e w9 ⟨rfl, q9, rfl⟩
  have B9 : Below w8.heap.size w8 (w8.drewN q9) := below_drewN (Below.refl _ _) _
  have F9 := (B9.block _ (lt_of_block F8)).trans F8
  have y9 : IsO (w8.drewN q9) c ya yn yc da dn dc vs bs := ⟨hcls, V8.isV.below B9, O8.isB.below B9⟩
  have L9 := L8.below B9
  have I9 := I8.below B9
  have B9' := below_size B8 B8.size B9
  have hdn := O8.isB.size
  clear F8 V8 O8 L8 I8 B8 B9 N8
  generalize w8.drewN q9 = w9 at *
  generalize w4.heap.size = py at *
  cases hok : okG xs with
  | false =>
    have h1 := hG.out
    rw [getV_no hok] at h1
    simp only [Prod.mk.injEq] at h1
    obtain ⟨rfl, rfl, rfl, rfl⟩ := h1
    clear F9 y9
    go_wp2_with fail
    refine (kept_true L9 I9 (by omega)).mono ?_
    rintro e w10 ⟨rfl, q10, rfl⟩
    have B10 := below_drewN B9' q10
    clear L9 I9 B9'
    generalize w9.drewN q10 = w10 at *
    go_wp2_with fail
    refine (known_true w10).mono ?_
    rintro e w11 ⟨rfl, B11⟩
    have B11' := below_size B10 B10.size B11
    go_wp2
    go_ret
    exact ⟨rfl, B11'⟩
  | true =>
    have h1 := hG.out
    rw [getV_yes hok] at h1
    simp only [Prod.mk.injEq] at h1
    obtain ⟨hc1, hv1, hb1, rfl⟩ := h1
    have hok2 := hok
    unfold okG at hok2
    rw [Bool.and_eq_true, hc1, hv1, hb1] at hok2
    obtain ⟨hst, hok3⟩ := hok2
    have hX : objY c vs bs = xs := by
      have := objY_objR (xs := xs) (c := c) (vs := vs) (bs := bs) (ys := []) (by rw [← hc1, ← hv1, ← hb1, ← of_decide_eq_true hst]) I.byte
      rw [List.append_nil] at this
      exact this.symm
    replace hX : Hid (objY c vs bs = xs) := hX
    rw [hdn] at hok3
    clear hc1 hv1 hb1 hst hG hok
    obtain ⟨z0, z1, z2, zf⟩ := obj_cells F9
    go_wp2_with fail
    refine (put_ok y9 hok3).mono ?_
    rintro e w10 ⟨v10, rfl, P10, B10⟩
    rw [hX.out] at P10
    obtain ⟨pa, pn, pc, rfl⟩ := P10.shape'
    have I10 := I9.below B10
    have hs1 := P10.isB.str
    have hs2 := I10.str
    have B10' := below_size B9' B9'.size B10
    clear z0 z1 z2 zf F9 y9 L9 I9 B9' B10 P10 I10
    go_wp2_with fail
    refine (known_true w10).mono ?_
    rintro e w11 ⟨rfl, B11⟩
    have B11' := below_size B10' B10'.size B11
    go_wp2
    go_ret
    exact ⟨rfl, B11'⟩
end Go.Proofs.Ytjfaflmmanjjbaa
