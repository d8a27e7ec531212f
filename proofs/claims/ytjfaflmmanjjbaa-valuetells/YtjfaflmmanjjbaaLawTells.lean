/- What a value, an object tells: the law's walk. -/
import Derived.Test.YtjfaflmmanjjbaaRefs
import Derived.Test.YtjfaflmmanjjbaaSameI
import Derived.Test.YtjfaflmmanjjbaaCopy2
import Derived.Test.YtjfaflmmanjjbaaReg
import Derived.Test.YtjfaflmmanjjbaaRAlike
import Derived.Test.YtjfaflmmanjjbaaSpoil
import Derived.Test.YtjfaflmmanjjbaaKnow
import Derived.Test.YtjfaflmmanjjbaaLawPuts
namespace Go.Proofs.Ytjfaflmmanjjbaa
open Go.RowKit
set_option maxRecDepth 100000
def valO (k n : Int) : Obj := .cells #[.int .i64 k, .int .i64 n] 23 (0, 0)
theorem val_cells {w : World} {b : Nat} {k n : Int} (h : w.heap[b]? = some (valO k n)) : w.cell? ⟨b, 0, none⟩ = some (.int .i64 k) ∧ w.cell? ⟨b, 1, none⟩ = some (.int .i64 n) := by
  constructor
  · rw [cell_of_row _ b _ _ _ _ h]; rfl
  · rw [cell_of_row _ b _ _ _ _ h]; rfl
theorem rsame_self {w : World} {c : Int} {sa ba ta ea : Option Addr} {sn sc bn bc tn tc en ec : Nat} {vs : List (Int × Int)} {bs : List Int} (h1 : IsO w c sa sn sc ba bn bc vs bs) (h2 : IsO w c ta tn tc ea en ec vs bs) :
    Calls Try.prog 17 #[.agg #[.int .i64 c, .slice sa sn sc, .slice ba bn bc], .agg #[.int .i64 c, .slice ta tn tc, .slice ea en ec]] w fun e w' => e = .returned (.bool true) ∧ Below w.heap.size w w' := by
  have h := rsame_any h1 h2
  rw [show alike c c vs vs bs bs = true by simp [alike]] at h
  exact h
theorem sameI_b {w : World} {p r n c m d : Nat} {a b : Option Addr} {xs : List Int} (h1 : OwnI w p (.slice a n c) xs) (h2 : OwnI w r (.slice b m d) xs) (hl : n ≤ 9223372036854775806) :
    Calls Try.prog 18 #[.slice a n c, .slice b m d] w fun e w' => e = .returned (.bool true) ∧ Below w.heap.size w w' :=
  (sameI_true h1 h2 hl).mono fun _ _ ⟨he, q, hw⟩ => ⟨he, by rw [hw]; exact below_drewN (Below.refl _ _) q⟩
/-- What the operations yield. -/
def tellV (k n c d : Int) (sa ba ta ea oa pa ga qa ra xa : Option Addr) (sn sc bn bc tn tc en ec oc pc gc qc rn rc xn xc : Nat) (q1 q2 q3 : Bool) (j : Nat) : Value :=
  ([.agg #[.int .i64 k, .int .i64 n],
    .bool q1,
    .agg #[.int .i64 k, .int .i64 n],
    .bool q1,
    .bool false,
    .bool false,
    .agg #[.int .i64 c, .slice oa sn oc, .slice pa bn pc],
    .bool q2,
    .agg #[.int .i64 c, .slice sa sn sc, .slice ba bn bc],
    .bool q2,
    .bool false,
    .bool false,
    .bool false,
    .agg #[.int .i64 c, .slice oa sn oc, .slice pa bn pc],
    .agg #[.int .i64 d, .slice ta tn tc, .slice ea en ec],
    .bool q3,
    .agg #[.int .i64 c, .slice sa sn sc, .slice ba bn bc],
    .agg #[.int .i64 d, .slice ta tn tc, .slice ea en ec],
    .bool q3,
    .bool false,
    .bool false,
    .bool false,
    .agg #[.int .i64 c, .slice ga sn gc, .slice qa bn qc],
    .agg #[.int .i64 c, .slice sa sn sc, .slice ba bn bc],
    .bool true,
    .bool false,
    .bool false,
    .bool false,
    .slice ra rn rc,
    .agg #[.int .i64 c, .slice sa sn sc, .slice ba bn bc],
    .slice xa xn xc,
    .bool true,
    .bool false,
    .bool false] : List Value).getD j undef
theorem tellV_list {l : List Value} (hh : l.length = 34) : ∃ v0 v1 v2 v3 v4 v5 v6 v7 v8 v9 v10 v11 v12 v13 v14 v15 v16 v17 v18 v19 v20 v21 v22 v23 v24 v25 v26 v27 v28 v29 v30 v31 v32 v33, l = [v0, v1, v2, v3, v4, v5, v6, v7, v8, v9, v10, v11, v12, v13, v14, v15, v16, v17, v18, v19, v20, v21, v22, v23, v24, v25, v26, v27, v28, v29, v30, v31, v32, v33] := by
  obtain ⟨v0, t0, rfl, h0⟩ := cons_of hh
  obtain ⟨v1, t1, rfl, h1⟩ := cons_of h0
  obtain ⟨v2, t2, rfl, h2⟩ := cons_of h1
  obtain ⟨v3, t3, rfl, h3⟩ := cons_of h2
  obtain ⟨v4, t4, rfl, h4⟩ := cons_of h3
  obtain ⟨v5, t5, rfl, h5⟩ := cons_of h4
  obtain ⟨v6, t6, rfl, h6⟩ := cons_of h5
  obtain ⟨v7, t7, rfl, h7⟩ := cons_of h6
  obtain ⟨v8, t8, rfl, h8⟩ := cons_of h7
  obtain ⟨v9, t9, rfl, h9⟩ := cons_of h8
  obtain ⟨v10, t10, rfl, h10⟩ := cons_of h9
  obtain ⟨v11, t11, rfl, h11⟩ := cons_of h10
  obtain ⟨v12, t12, rfl, h12⟩ := cons_of h11
  obtain ⟨v13, t13, rfl, h13⟩ := cons_of h12
  obtain ⟨v14, t14, rfl, h14⟩ := cons_of h13
  obtain ⟨v15, t15, rfl, h15⟩ := cons_of h14
  obtain ⟨v16, t16, rfl, h16⟩ := cons_of h15
  obtain ⟨v17, t17, rfl, h17⟩ := cons_of h16
  obtain ⟨v18, t18, rfl, h18⟩ := cons_of h17
  obtain ⟨v19, t19, rfl, h19⟩ := cons_of h18
  obtain ⟨v20, t20, rfl, h20⟩ := cons_of h19
  obtain ⟨v21, t21, rfl, h21⟩ := cons_of h20
  obtain ⟨v22, t22, rfl, h22⟩ := cons_of h21
  obtain ⟨v23, t23, rfl, h23⟩ := cons_of h22
  obtain ⟨v24, t24, rfl, h24⟩ := cons_of h23
  obtain ⟨v25, t25, rfl, h25⟩ := cons_of h24
  obtain ⟨v26, t26, rfl, h26⟩ := cons_of h25
  obtain ⟨v27, t27, rfl, h27⟩ := cons_of h26
  obtain ⟨v28, t28, rfl, h28⟩ := cons_of h27
  obtain ⟨v29, t29, rfl, h29⟩ := cons_of h28
  obtain ⟨v30, t30, rfl, h30⟩ := cons_of h29
  obtain ⟨v31, t31, rfl, h31⟩ := cons_of h30
  obtain ⟨v32, t32, rfl, h32⟩ := cons_of h31
  obtain ⟨v33, t33, rfl, h33⟩ := cons_of h32
  obtain rfl := List.eq_nil_of_length_eq_zero h33
  exact ⟨_, _, _, _, _, _, _, _, _, _, _, _, _, _, _, _, _, _, _, _, _, _, _, _, _, _, _, _, _, _, _, _, _, _, rfl⟩
set_option maxHeartbeats 8000000 in
theorem tells_law {w : World} {k n c d : Int} {sa ba ta ea : Option Addr} {sn sc bn bc tn tc en ec : Nat} {vs us : List (Int × Int)} {bs ds : List Int} (ha : IsO w c sa sn sc ba bn bc vs bs) (hb : IsO w d ta tn tc ea en ec us ds) (hs : sn ≤ 8796093022208) (hbl : bn ≤ 140737488355328) :
    Calls Try.prog 3 #[.agg #[.int .i64 k, .int .i64 n], .agg #[.int .i64 c, .slice sa sn sc, .slice ba bn bc], .agg #[.int .i64 d, .slice ta tn tc, .slice ea en ec]] w fun e w' => e = .returned (.bool true) ∧ Below w.heap.size w w' := by
  have hvs := ha.v.size
  have hbs := ha.b.size
  have hcls := ha.cls
  have E3 : (((w.alloc (valO k n)).alloc (objB c (.slice sa sn sc) (.slice ba bn bc))).alloc (objB d (.slice ta tn tc) (.slice ea en ec))).heap[w.heap.size]? = some (valO k n) := old1 (old1 (new1 _ _) _) _
  have E4 : (((w.alloc (valO k n)).alloc (objB c (.slice sa sn sc) (.slice ba bn bc))).alloc (objB d (.slice ta tn tc) (.slice ea en ec))).heap[w.heap.size + 1]? = some (objB c (.slice sa sn sc) (.slice ba bn bc)) := old1 (new2 _ _ _) _
  have E5 : (((w.alloc (valO k n)).alloc (objB c (.slice sa sn sc) (.slice ba bn bc))).alloc (objB d (.slice ta tn tc) (.slice ea en ec))).heap[w.heap.size + 1 + 1]? = some (objB d (.slice ta tn tc) (.slice ea en ec)) := new3 _ _ _ _
  have B3 : Below w.heap.size w (((w.alloc (valO k n)).alloc (objB c (.slice sa sn sc) (.slice ba bn bc))).alloc (objB d (.slice ta tn tc) (.slice ea en ec))) := below_size (below_size box_below box_below.size box_below) (by simp; omega) box_below
  replace ha := ha.below B3
  replace hb := hb.below B3
  unfold valO at E3 E4 E5 B3 ha hb
  unfold objB at E3 E4 E5 B3 ha hb
  go_enter Try.func3, Try.ntmps3
  go_wp2_with fail
  replace E3 : _ = some (valO k n) := E3
  replace E4 : _ = some (objB c (.slice sa sn sc) (.slice ba bn bc)) := E4
  replace E5 : _ = some (objB d (.slice ta tn tc) (.slice ea en ec)) := E5
  generalize ((w.alloc (.cells #[.int .i64 k, .int .i64 n] 23)).alloc (.cells #[.int .i64 c, .slice sa sn sc, .slice ba bn bc] 27)).alloc (.cells #[.int .i64 d, .slice ta tn tc, .slice ea en ec] 27) = w3 at *
  generalize w.heap.size + 1 + 1 = b5 at *
  generalize w.heap.size + 1 = b4 at *
  obtain ⟨b3, hb3⟩ : ∃ b, b = w.heap.size := ⟨_, rfl⟩
  rw [← hb3] at E3 ⊢
  clear hb3
  refine (rcopy_any ha hs hbl).mono ?_
  rintro e w4 ⟨vv, bv, rfl, V1, O1, B4⟩
  obtain ⟨oa, oc, rfl⟩ : ∃ a c, vv = .slice a sn c := by obtain ⟨a, c, e, _⟩ := V1.2; exact ⟨a, c, by rw [e, hvs]⟩
  obtain ⟨pa, pc, rfl⟩ : ∃ a c, bv = .slice a bn c := by obtain ⟨_, a, c, e, _⟩ := O1; exact ⟨a, c, by rw [e, hbs]⟩
  have ho : IsO w4 c oa sn oc pa bn pc vs bs := ⟨hcls, V1.isV, O1.isB⟩
  replace E3 := old1 ((B4.block _ (lt_of_block E3)).trans E3) (objB c (.slice oa sn oc) (.slice pa bn pc))
  replace E4 := old1 ((B4.block _ (lt_of_block E4)).trans E4) (objB c (.slice oa sn oc) (.slice pa bn pc))
  replace E5 := old1 ((B4.block _ (lt_of_block E5)).trans E5) (objB c (.slice oa sn oc) (.slice pa bn pc))
  have E7 := new1 w4 (objB c (.slice oa sn oc) (.slice pa bn pc))
  replace ha := (ha.below B4).below (box_below (o := objB c (.slice oa sn oc) (.slice pa bn pc)))
  replace hb := (hb.below B4).below (box_below (o := objB c (.slice oa sn oc) (.slice pa bn pc)))
  replace ho := ho.below (box_below (o := objB c (.slice oa sn oc) (.slice pa bn pc)))
  have B5 := below_size (below_size B3 B3.size B4) (below_size B3 B3.size B4).size (box_below (o := objB c (.slice oa sn oc) (.slice pa bn pc)))
  clear B3 B4 V1 O1
  unfold objB at E3 E4 E5 E7 ha hb ho B5
  go_wp2_with fail
  replace E4 : _ = some (objB c (.slice sa sn sc) (.slice ba bn bc)) := E4
  replace E5 : _ = some (objB d (.slice ta tn tc) (.slice ea en ec)) := E5
  replace E7 : _ = some (objB c (.slice oa sn oc) (.slice pa bn pc)) := E7
  generalize w4.alloc (.cells #[.int .i64 c, .slice oa sn oc, .slice pa bn pc] 27) = w0 at *
  generalize w4.heap.size = b7 at *
  refine (copy_any ho hs hbl).mono ?_
  rintro e w6 ⟨vv, bv, rfl, V6, O6, B6⟩
  obtain ⟨ga, gc, rfl⟩ : ∃ a c, vv = .slice a sn c := by obtain ⟨a, c, e, _⟩ := V6.2; exact ⟨a, c, by rw [e, hvs]⟩
  obtain ⟨qa, qc, rfl⟩ : ∃ a c, bv = .slice a bn c := by obtain ⟨_, a, c, e, _⟩ := O6; exact ⟨a, c, by rw [e, hbs]⟩
  have E7' := old1 ((B6.block _ (lt_of_block E7)).trans E7) (objB c (.slice ga sn gc) (.slice qa bn qc))
  have E8 := new1 w6 (objB c (.slice ga sn gc) (.slice qa bn qc))
  replace V6 := V6.below (box_below (o := objB c (.slice ga sn gc) (.slice qa bn qc)))
  replace O6 := O6.below (box_below (o := objB c (.slice ga sn gc) (.slice qa bn qc)))
  have B7 := below_size B6 B6.size (box_below (o := objB c (.slice ga sn gc) (.slice qa bn qc)))
  clear B6
  unfold objB at E7' E8 V6 O6 B7
  go_upto_region 3 with fail
  replace E7' : _ = some (objB c (.slice oa sn oc) (.slice pa bn pc)) := E7'
  replace E8 : _ = some (objB c (.slice ga sn gc) (.slice qa bn qc)) := E8
  generalize w6.alloc (.cells #[.int .i64 c, .slice ga sn gc, .slice qa bn qc] 27) = w7 at *
  generalize w6.heap.size = b8 at *
  obtain ⟨z0, z1, z2, zf⟩ := obj_cells E7'
  go_wp2_with fail
  clear z0 z1 z2 zf
  refine (refs_any (ho.below B7).v hs).mono ?_
  rintro e wq ⟨rv, rfl, hi, B8⟩
  obtain ⟨ra, rn, rc, rfl⟩ := hi.shape'
  have hrn : rn ≤ 9223372036854775806 := by have h1 := hi.size; have h2 := refs_len c vs; omega
  replace E8 := (B8.block _ (lt_of_block E8)).trans E8
  replace V6 := V6.below B8
  replace O6 := O6.below B8
  have Bq := below_size B7 B7.size B8
  clear B7 B8 E7'
  have hc : IsO wq c ga sn gc qa bn qc vs bs := ⟨hcls, V6.isV, O6.isB⟩
  go_upto_region 4 with fail
  have fin : ∀ wz wy : World, Below wq.heap.size wq wz → But2 (Value.slice ga sn gc).ownBlock (Value.slice qa bn qc).ownBlock wz wy → Below w0.heap.size w0 wy := fun wz wy h k => k.below (below_size Bq Bq.size h) (below_size Bq Bq.size h).size (fun g e => (own_block V6.1 e).1) (fun g e => (own_block O6.1 e).1)
  have ha0 := ha
  have ho0 := ho
  have E40 := E4
  have E70 := E7
  have hbm : bn ≤ maxLen := Nat.le_trans ha.b.room ha.b.most
  obtain ⟨q1, hq1⟩ : ∃ q, Hid (okV k n = q) := ⟨_, rfl⟩
  obtain ⟨q2, hq2⟩ : ∃ q, Hid (okO c vs bn = q) := ⟨_, rfl⟩
  obtain ⟨q3, hq3⟩ : ∃ q, Hid (alike c d vs us bs ds = q) := ⟨_, rfl⟩
  have c12 : ∀ w' : World, Calls Try.prog 12 #[.agg #[.int .i64 k, .int .i64 n]] w' fun e w'' => e = .returned (.bool q1) ∧ Below w'.heap.size w' w'' := fun w' => by have h := right_any k n w'; rw [hq1.out] at h; exact h
  have c13 : ∀ w' : World, Calls Try.prog 13 #[.agg #[.int .i64 k, .int .i64 n]] w' fun e w'' => e = .returned (.bool q1) ∧ Below w'.heap.size w' w'' := fun w' => by have h := rright_any k n w'; rw [hq1.out] at h; exact h
  have c14 : ∀ w' : World, IsO w' c oa sn oc pa bn pc vs bs → Calls Try.prog 14 #[.agg #[.int .i64 c, .slice oa sn oc, .slice pa bn pc]] w' fun e w'' => e = .returned (.bool q2) ∧ Below w'.heap.size w' w'' := fun w' h => by have h := rightObj_any c (ba := pa) (bn := bn) (bc := pc) h.v hbm; rw [hq2.out] at h; exact h
  have c15 : ∀ w' : World, IsO w' c sa sn sc ba bn bc vs bs → Calls Try.prog 15 #[.agg #[.int .i64 c, .slice sa sn sc, .slice ba bn bc]] w' fun e w'' => e = .returned (.bool q2) ∧ Below w'.heap.size w' w'' := fun w' h => by have h := rrightObj_any c (ba := ba) (bn := bn) (bc := bc) h.v hbm; rw [hq2.out] at h; exact h
  have c16 : ∀ w' : World, IsO w' c oa sn oc pa bn pc vs bs → IsO w' d ta tn tc ea en ec us ds → Calls Try.prog 16 #[.agg #[.int .i64 c, .slice oa sn oc, .slice pa bn pc], .agg #[.int .i64 d, .slice ta tn tc, .slice ea en ec]] w' fun e w'' => e = .returned (.bool q3) ∧ Below w'.heap.size w' w'' := fun w' h h' => by have h := same_any h h'; rw [hq3.out] at h; exact h
  have c17 : ∀ w' : World, IsO w' c sa sn sc ba bn bc vs bs → IsO w' d ta tn tc ea en ec us ds → Calls Try.prog 17 #[.agg #[.int .i64 c, .slice sa sn sc, .slice ba bn bc], .agg #[.int .i64 d, .slice ta tn tc, .slice ea en ec]] w' fun e w'' => e = .returned (.bool q3) ∧ Below w'.heap.size w' w'' := fun w' h h' => by have h := rsame_any h h'; rw [hq3.out] at h; exact h
  have IA := ha.below Bq
  have IB := hb.below Bq
  have IO := ho.below Bq
  have IC := hc
  clear ha hb ho hc
  replace E3 := (Bq.block _ (lt_of_block E3)).trans E3
  replace E4 := (Bq.block _ (lt_of_block E4)).trans E4
  replace E5 := (Bq.block _ (lt_of_block E5)).trans E5
  replace E7 := (Bq.block _ (lt_of_block E7)).trans E7
  refine abstract_act fun A hA => ?_
  have hsz : A.tmps.size = 58 := by rw [hA]; rfl
  have s3 : A.tmps[3]? = some (.pointer (some ⟨b3, 0, none⟩)) := by rw [hA]; rfl
  have s4 : A.tmps[4]? = some (.pointer (some ⟨b4, 0, none⟩)) := by rw [hA]; rfl
  have s5 : A.tmps[5]? = some (.pointer (some ⟨b5, 0, none⟩)) := by rw [hA]; rfl
  have s7 : A.tmps[7]? = some (.pointer (some ⟨b7, 0, none⟩)) := by rw [hA]; rfl
  have s8 : A.tmps[8]? = some (.pointer (some ⟨b8, 0, none⟩)) := by rw [hA]; rfl
  have s9 : A.tmps[9]? = some (.slice ra rn rc) := by rw [hA]; rfl
  refine wp_region_inv2' (fun A D a w' => ∃ (l : List Value) (xa : Option Addr) (xn : Nat) (xc : Nat), a = putAll A 16 l ∧ l.length = 34 ∧ Below wq.heap.size wq w' ∧ (∀ j, j < 34 → D j → l[j]? = some (tellV k n c d sa ba ta ea oa pa ga qa ra xa sn sc bn bc tn tc en ec oc pc gc qc rn rc xn xc q1 q2 q3 j)) ∧ (D 30 → OwnI w' wq.heap.size (.slice xa xn xc) (refsL c vs))) (by kernel_rfl) (by kernel_rfl) ?mono ?start ?step ?done
  case mono =>
    rintro D D' a w' hD ⟨l, xa, xn, xc, ha, hlen, hB, hl, hri⟩
    exact ⟨l, xa, xn, xc, ha, hlen, hB, fun j hj h => hl j hj ((hD j).2 h), fun h => hri ((hD 30).2 h)⟩
  case start => exact ⟨_, none, 0, 0, (putAll_start A 16 34 (by omega)).1, (putAll_start A 16 34 (by omega)).2, (Below.refl _ _).drew, fun _ _ h => h.elim, fun h => h.elim⟩
  case step =>
    clear hA
    intro i o ho D a w' hI hn hcl hd
    obtain ⟨l, xa, xn, xc, ha, hlen, hB, hl, hri⟩ := hI
    match i, ho with
    | 0, ho =>
      cases Option.some.inj ho
      refine ⟨rfl, ?_⟩
      have ev : a.tmps[3]? = some (.pointer (some ⟨b3, 0, none⟩)) := by rw [ha, putAll_low A 16 3 l (by omega) (by decide)]; exact s3
      obtain ⟨z0, z1⟩ := val_cells ((hB.block _ (lt_of_block E3)).trans E3)
      refine wp_value (w' := w') (v := .agg #[.int .i64 k, .int .i64 n]) (by simp [execOp, ev, go_sem, z0, z1]) ?_
      exact ⟨_, xa, xn, xc, by rw [ha]; exact putAll_put A 16 0 l _ (by omega) (by omega), by rw [List.length_set]; exact hlen, hB, set_known hlen (by decide) hl, fun h => (hri (h.resolve_left (by decide)))⟩
    | 1, ho =>
      cases Option.some.inj ho
      refine ⟨rfl, ?_⟩
      have ev : a.tmps[16]? = some (.agg #[.int .i64 k, .int .i64 n]) := known_at ha hsz hlen hl 0 (by decide) (hd ⟨0, .data⟩ (by simp) rfl)
      refine wp_enter (f := 12) (args := #[.agg #[.int .i64 k, .int .i64 n]]) (by simp [execOp, ev, go_sem]) ?_
      refine (c12 w').mono ?_
      rintro e w6 ⟨rfl, HB⟩
      refine ⟨_, rfl, ?_⟩
      exact ⟨_, xa, xn, xc, by rw [ha]; exact putAll_put A 16 1 l _ (by omega) (by omega), by rw [List.length_set]; exact hlen, below_size hB hB.size HB, set_known hlen (by decide) hl, fun h => (hri (h.resolve_left (by decide))).below HB⟩
    | 2, ho =>
      cases Option.some.inj ho
      refine ⟨rfl, ?_⟩
      have ev : a.tmps[3]? = some (.pointer (some ⟨b3, 0, none⟩)) := by rw [ha, putAll_low A 16 3 l (by omega) (by decide)]; exact s3
      obtain ⟨z0, z1⟩ := val_cells ((hB.block _ (lt_of_block E3)).trans E3)
      refine wp_value (w' := w') (v := .agg #[.int .i64 k, .int .i64 n]) (by simp [execOp, ev, go_sem, z0, z1]) ?_
      exact ⟨_, xa, xn, xc, by rw [ha]; exact putAll_put A 16 2 l _ (by omega) (by omega), by rw [List.length_set]; exact hlen, hB, set_known hlen (by decide) hl, fun h => (hri (h.resolve_left (by decide)))⟩
    | 3, ho =>
      cases Option.some.inj ho
      refine ⟨rfl, ?_⟩
      have ev : a.tmps[18]? = some (.agg #[.int .i64 k, .int .i64 n]) := known_at ha hsz hlen hl 2 (by decide) (hd ⟨2, .data⟩ (by simp) rfl)
      refine wp_enter (f := 13) (args := #[.agg #[.int .i64 k, .int .i64 n]]) (by simp [execOp, ev, go_sem]) ?_
      refine (c13 w').mono ?_
      rintro e w6 ⟨rfl, HB⟩
      refine ⟨_, rfl, ?_⟩
      exact ⟨_, xa, xn, xc, by rw [ha]; exact putAll_put A 16 3 l _ (by omega) (by omega), by rw [List.length_set]; exact hlen, below_size hB hB.size HB, set_known hlen (by decide) hl, fun h => (hri (h.resolve_left (by decide))).below HB⟩
    | 4, ho =>
      cases Option.some.inj ho
      refine ⟨rfl, ?_⟩
      have ev : a.tmps[17]? = some (.bool q1) := known_at ha hsz hlen hl 1 (by decide) (hd ⟨1, .data⟩ (by simp) rfl)
      have ev' : a.tmps[19]? = some (.bool q1) := known_at ha hsz hlen hl 3 (by decide) (hd ⟨3, .data⟩ (by simp) rfl)
      refine wp_value (w' := w') (v := .bool false) (by simp [execOp, ev, ev', go_sem]) ?_
      exact ⟨_, xa, xn, xc, by rw [ha]; exact putAll_put A 16 4 l _ (by omega) (by omega), by rw [List.length_set]; exact hlen, hB, set_known hlen (by decide) hl, fun h => (hri (h.resolve_left (by decide)))⟩
    | 5, ho =>
      cases Option.some.inj ho
      refine ⟨rfl, ?_⟩
      have ev : a.tmps[20]? = some (.bool false) := known_at ha hsz hlen hl 4 (by decide) (hd ⟨4, .data⟩ (by simp) rfl)
      refine wp_value (w' := w') (v := .bool false) (by simp [execOp, ev, go_sem]) ?_
      exact ⟨_, xa, xn, xc, by rw [ha]; exact putAll_put A 16 5 l _ (by omega) (by omega), by rw [List.length_set]; exact hlen, hB, set_known hlen (by decide) hl, fun h => (hri (h.resolve_left (by decide)))⟩
    | 6, ho =>
      cases Option.some.inj ho
      refine ⟨wanted_of (k := 21) rfl rfl rfl (known_at ha hsz hlen hl 5 (by decide) (hd ⟨5, .guard⟩ (by simp) rfl)), ?_⟩
      have ev : a.tmps[7]? = some (.pointer (some ⟨b7, 0, none⟩)) := by rw [ha, putAll_low A 16 7 l (by omega) (by decide)]; exact s7
      obtain ⟨z0, z1, z2, _⟩ := obj_cells ((hB.block _ (lt_of_block E7)).trans E7)
      refine wp_value (w' := w') (v := .agg #[.int .i64 c, .slice oa sn oc, .slice pa bn pc]) (by simp [execOp, ev, go_sem, z0, z1, z2]) ?_
      exact ⟨_, xa, xn, xc, by rw [ha]; exact putAll_put A 16 6 l _ (by omega) (by omega), by rw [List.length_set]; exact hlen, hB, set_known hlen (by decide) hl, fun h => (hri (h.resolve_left (by decide)))⟩
    | 7, ho =>
      cases Option.some.inj ho
      refine ⟨wanted_of (k := 21) rfl rfl rfl (known_at ha hsz hlen hl 5 (by decide) (hd ⟨5, .guard⟩ (by simp) rfl)), ?_⟩
      have ev : a.tmps[22]? = some (.agg #[.int .i64 c, .slice oa sn oc, .slice pa bn pc]) := known_at ha hsz hlen hl 6 (by decide) (hd ⟨6, .data⟩ (by simp) rfl)
      refine wp_enter (f := 14) (args := #[.agg #[.int .i64 c, .slice oa sn oc, .slice pa bn pc]]) (by simp [execOp, ev, go_sem]) ?_
      refine (c14 w' (IO.below hB)).mono ?_
      rintro e w6 ⟨rfl, HB⟩
      refine ⟨_, rfl, ?_⟩
      exact ⟨_, xa, xn, xc, by rw [ha]; exact putAll_put A 16 7 l _ (by omega) (by omega), by rw [List.length_set]; exact hlen, below_size hB hB.size HB, set_known hlen (by decide) hl, fun h => (hri (h.resolve_left (by decide))).below HB⟩
    | 8, ho =>
      cases Option.some.inj ho
      refine ⟨wanted_of (k := 21) rfl rfl rfl (known_at ha hsz hlen hl 5 (by decide) (hd ⟨5, .guard⟩ (by simp) rfl)), ?_⟩
      have ev : a.tmps[4]? = some (.pointer (some ⟨b4, 0, none⟩)) := by rw [ha, putAll_low A 16 4 l (by omega) (by decide)]; exact s4
      obtain ⟨z0, z1, z2, _⟩ := obj_cells ((hB.block _ (lt_of_block E4)).trans E4)
      refine wp_value (w' := w') (v := .agg #[.int .i64 c, .slice sa sn sc, .slice ba bn bc]) (by simp [execOp, ev, go_sem, z0, z1, z2]) ?_
      exact ⟨_, xa, xn, xc, by rw [ha]; exact putAll_put A 16 8 l _ (by omega) (by omega), by rw [List.length_set]; exact hlen, hB, set_known hlen (by decide) hl, fun h => (hri (h.resolve_left (by decide)))⟩
    | 9, ho =>
      cases Option.some.inj ho
      refine ⟨wanted_of (k := 21) rfl rfl rfl (known_at ha hsz hlen hl 5 (by decide) (hd ⟨5, .guard⟩ (by simp) rfl)), ?_⟩
      have ev : a.tmps[24]? = some (.agg #[.int .i64 c, .slice sa sn sc, .slice ba bn bc]) := known_at ha hsz hlen hl 8 (by decide) (hd ⟨8, .data⟩ (by simp) rfl)
      refine wp_enter (f := 15) (args := #[.agg #[.int .i64 c, .slice sa sn sc, .slice ba bn bc]]) (by simp [execOp, ev, go_sem]) ?_
      refine (c15 w' (IA.below hB)).mono ?_
      rintro e w6 ⟨rfl, HB⟩
      refine ⟨_, rfl, ?_⟩
      exact ⟨_, xa, xn, xc, by rw [ha]; exact putAll_put A 16 9 l _ (by omega) (by omega), by rw [List.length_set]; exact hlen, below_size hB hB.size HB, set_known hlen (by decide) hl, fun h => (hri (h.resolve_left (by decide))).below HB⟩
    | 10, ho =>
      cases Option.some.inj ho
      refine ⟨wanted_of (k := 21) rfl rfl rfl (known_at ha hsz hlen hl 5 (by decide) (hd ⟨5, .guard⟩ (by simp) rfl)), ?_⟩
      have ev : a.tmps[23]? = some (.bool q2) := known_at ha hsz hlen hl 7 (by decide) (hd ⟨7, .data⟩ (by simp) rfl)
      have ev' : a.tmps[25]? = some (.bool q2) := known_at ha hsz hlen hl 9 (by decide) (hd ⟨9, .data⟩ (by simp) rfl)
      refine wp_value (w' := w') (v := .bool false) (by simp [execOp, ev, ev', go_sem]) ?_
      exact ⟨_, xa, xn, xc, by rw [ha]; exact putAll_put A 16 10 l _ (by omega) (by omega), by rw [List.length_set]; exact hlen, hB, set_known hlen (by decide) hl, fun h => (hri (h.resolve_left (by decide)))⟩
    | 11, ho =>
      cases Option.some.inj ho
      refine ⟨rfl, ?_⟩
      have ev : a.tmps[21]? = some (.bool false) := known_at ha hsz hlen hl 5 (by decide) (hd ⟨5, .data⟩ (by simp) rfl)
      have ev' : a.tmps[26]? = some (.bool false) := known_at ha hsz hlen hl 10 (by decide) (hd ⟨10, .data⟩ (by simp) rfl)
      refine wp_value (w' := w') (v := .bool false) (by simp [execOp, ev, ev', go_sem]) ?_
      exact ⟨_, xa, xn, xc, by rw [ha]; exact putAll_put A 16 11 l _ (by omega) (by omega), by rw [List.length_set]; exact hlen, hB, set_known hlen (by decide) hl, fun h => (hri (h.resolve_left (by decide)))⟩
    | 12, ho =>
      cases Option.some.inj ho
      refine ⟨rfl, ?_⟩
      have ev : a.tmps[27]? = some (.bool false) := known_at ha hsz hlen hl 11 (by decide) (hd ⟨11, .data⟩ (by simp) rfl)
      refine wp_value (w' := w') (v := .bool false) (by simp [execOp, ev, go_sem]) ?_
      exact ⟨_, xa, xn, xc, by rw [ha]; exact putAll_put A 16 12 l _ (by omega) (by omega), by rw [List.length_set]; exact hlen, hB, set_known hlen (by decide) hl, fun h => (hri (h.resolve_left (by decide)))⟩
    | 13, ho =>
      cases Option.some.inj ho
      refine ⟨wanted_of (k := 28) rfl rfl rfl (known_at ha hsz hlen hl 12 (by decide) (hd ⟨12, .guard⟩ (by simp) rfl)), ?_⟩
      have ev : a.tmps[7]? = some (.pointer (some ⟨b7, 0, none⟩)) := by rw [ha, putAll_low A 16 7 l (by omega) (by decide)]; exact s7
      obtain ⟨z0, z1, z2, _⟩ := obj_cells ((hB.block _ (lt_of_block E7)).trans E7)
      refine wp_value (w' := w') (v := .agg #[.int .i64 c, .slice oa sn oc, .slice pa bn pc]) (by simp [execOp, ev, go_sem, z0, z1, z2]) ?_
      exact ⟨_, xa, xn, xc, by rw [ha]; exact putAll_put A 16 13 l _ (by omega) (by omega), by rw [List.length_set]; exact hlen, hB, set_known hlen (by decide) hl, fun h => (hri (h.resolve_left (by decide)))⟩
    | 14, ho =>
      cases Option.some.inj ho
      refine ⟨wanted_of (k := 28) rfl rfl rfl (known_at ha hsz hlen hl 12 (by decide) (hd ⟨12, .guard⟩ (by simp) rfl)), ?_⟩
      have ev : a.tmps[5]? = some (.pointer (some ⟨b5, 0, none⟩)) := by rw [ha, putAll_low A 16 5 l (by omega) (by decide)]; exact s5
      obtain ⟨z0, z1, z2, _⟩ := obj_cells ((hB.block _ (lt_of_block E5)).trans E5)
      refine wp_value (w' := w') (v := .agg #[.int .i64 d, .slice ta tn tc, .slice ea en ec]) (by simp [execOp, ev, go_sem, z0, z1, z2]) ?_
      exact ⟨_, xa, xn, xc, by rw [ha]; exact putAll_put A 16 14 l _ (by omega) (by omega), by rw [List.length_set]; exact hlen, hB, set_known hlen (by decide) hl, fun h => (hri (h.resolve_left (by decide)))⟩
    | 15, ho =>
      cases Option.some.inj ho
      refine ⟨wanted_of (k := 28) rfl rfl rfl (known_at ha hsz hlen hl 12 (by decide) (hd ⟨12, .guard⟩ (by simp) rfl)), ?_⟩
      have ev : a.tmps[29]? = some (.agg #[.int .i64 c, .slice oa sn oc, .slice pa bn pc]) := known_at ha hsz hlen hl 13 (by decide) (hd ⟨13, .data⟩ (by simp) rfl)
      have ev' : a.tmps[30]? = some (.agg #[.int .i64 d, .slice ta tn tc, .slice ea en ec]) := known_at ha hsz hlen hl 14 (by decide) (hd ⟨14, .data⟩ (by simp) rfl)
      refine wp_enter (f := 16) (args := #[.agg #[.int .i64 c, .slice oa sn oc, .slice pa bn pc], .agg #[.int .i64 d, .slice ta tn tc, .slice ea en ec]]) (by simp [execOp, ev, ev', go_sem]) ?_
      refine (c16 w' (IO.below hB) (IB.below hB)).mono ?_
      rintro e w6 ⟨rfl, HB⟩
      refine ⟨_, rfl, ?_⟩
      exact ⟨_, xa, xn, xc, by rw [ha]; exact putAll_put A 16 15 l _ (by omega) (by omega), by rw [List.length_set]; exact hlen, below_size hB hB.size HB, set_known hlen (by decide) hl, fun h => (hri (h.resolve_left (by decide))).below HB⟩
    | 16, ho =>
      cases Option.some.inj ho
      refine ⟨wanted_of (k := 28) rfl rfl rfl (known_at ha hsz hlen hl 12 (by decide) (hd ⟨12, .guard⟩ (by simp) rfl)), ?_⟩
      have ev : a.tmps[4]? = some (.pointer (some ⟨b4, 0, none⟩)) := by rw [ha, putAll_low A 16 4 l (by omega) (by decide)]; exact s4
      obtain ⟨z0, z1, z2, _⟩ := obj_cells ((hB.block _ (lt_of_block E4)).trans E4)
      refine wp_value (w' := w') (v := .agg #[.int .i64 c, .slice sa sn sc, .slice ba bn bc]) (by simp [execOp, ev, go_sem, z0, z1, z2]) ?_
      exact ⟨_, xa, xn, xc, by rw [ha]; exact putAll_put A 16 16 l _ (by omega) (by omega), by rw [List.length_set]; exact hlen, hB, set_known hlen (by decide) hl, fun h => (hri (h.resolve_left (by decide)))⟩
    | 17, ho =>
      cases Option.some.inj ho
      refine ⟨wanted_of (k := 28) rfl rfl rfl (known_at ha hsz hlen hl 12 (by decide) (hd ⟨12, .guard⟩ (by simp) rfl)), ?_⟩
      have ev : a.tmps[5]? = some (.pointer (some ⟨b5, 0, none⟩)) := by rw [ha, putAll_low A 16 5 l (by omega) (by decide)]; exact s5
      obtain ⟨z0, z1, z2, _⟩ := obj_cells ((hB.block _ (lt_of_block E5)).trans E5)
      refine wp_value (w' := w') (v := .agg #[.int .i64 d, .slice ta tn tc, .slice ea en ec]) (by simp [execOp, ev, go_sem, z0, z1, z2]) ?_
      exact ⟨_, xa, xn, xc, by rw [ha]; exact putAll_put A 16 17 l _ (by omega) (by omega), by rw [List.length_set]; exact hlen, hB, set_known hlen (by decide) hl, fun h => (hri (h.resolve_left (by decide)))⟩
    | 18, ho =>
      cases Option.some.inj ho
      refine ⟨wanted_of (k := 28) rfl rfl rfl (known_at ha hsz hlen hl 12 (by decide) (hd ⟨12, .guard⟩ (by simp) rfl)), ?_⟩
      have ev : a.tmps[32]? = some (.agg #[.int .i64 c, .slice sa sn sc, .slice ba bn bc]) := known_at ha hsz hlen hl 16 (by decide) (hd ⟨16, .data⟩ (by simp) rfl)
      have ev' : a.tmps[33]? = some (.agg #[.int .i64 d, .slice ta tn tc, .slice ea en ec]) := known_at ha hsz hlen hl 17 (by decide) (hd ⟨17, .data⟩ (by simp) rfl)
      refine wp_enter (f := 17) (args := #[.agg #[.int .i64 c, .slice sa sn sc, .slice ba bn bc], .agg #[.int .i64 d, .slice ta tn tc, .slice ea en ec]]) (by simp [execOp, ev, ev', go_sem]) ?_
      refine (c17 w' (IA.below hB) (IB.below hB)).mono ?_
      rintro e w6 ⟨rfl, HB⟩
      refine ⟨_, rfl, ?_⟩
      exact ⟨_, xa, xn, xc, by rw [ha]; exact putAll_put A 16 18 l _ (by omega) (by omega), by rw [List.length_set]; exact hlen, below_size hB hB.size HB, set_known hlen (by decide) hl, fun h => (hri (h.resolve_left (by decide))).below HB⟩
    | 19, ho =>
      cases Option.some.inj ho
      refine ⟨wanted_of (k := 28) rfl rfl rfl (known_at ha hsz hlen hl 12 (by decide) (hd ⟨12, .guard⟩ (by simp) rfl)), ?_⟩
      have ev : a.tmps[31]? = some (.bool q3) := known_at ha hsz hlen hl 15 (by decide) (hd ⟨15, .data⟩ (by simp) rfl)
      have ev' : a.tmps[34]? = some (.bool q3) := known_at ha hsz hlen hl 18 (by decide) (hd ⟨18, .data⟩ (by simp) rfl)
      refine wp_value (w' := w') (v := .bool false) (by simp [execOp, ev, ev', go_sem]) ?_
      exact ⟨_, xa, xn, xc, by rw [ha]; exact putAll_put A 16 19 l _ (by omega) (by omega), by rw [List.length_set]; exact hlen, hB, set_known hlen (by decide) hl, fun h => (hri (h.resolve_left (by decide)))⟩
    | 20, ho =>
      cases Option.some.inj ho
      refine ⟨rfl, ?_⟩
      have ev : a.tmps[28]? = some (.bool false) := known_at ha hsz hlen hl 12 (by decide) (hd ⟨12, .data⟩ (by simp) rfl)
      have ev' : a.tmps[35]? = some (.bool false) := known_at ha hsz hlen hl 19 (by decide) (hd ⟨19, .data⟩ (by simp) rfl)
      refine wp_value (w' := w') (v := .bool false) (by simp [execOp, ev, ev', go_sem]) ?_
      exact ⟨_, xa, xn, xc, by rw [ha]; exact putAll_put A 16 20 l _ (by omega) (by omega), by rw [List.length_set]; exact hlen, hB, set_known hlen (by decide) hl, fun h => (hri (h.resolve_left (by decide)))⟩
    | 21, ho =>
      cases Option.some.inj ho
      refine ⟨rfl, ?_⟩
      have ev : a.tmps[36]? = some (.bool false) := known_at ha hsz hlen hl 20 (by decide) (hd ⟨20, .data⟩ (by simp) rfl)
      refine wp_value (w' := w') (v := .bool false) (by simp [execOp, ev, go_sem]) ?_
      exact ⟨_, xa, xn, xc, by rw [ha]; exact putAll_put A 16 21 l _ (by omega) (by omega), by rw [List.length_set]; exact hlen, hB, set_known hlen (by decide) hl, fun h => (hri (h.resolve_left (by decide)))⟩
    | 22, ho =>
      cases Option.some.inj ho
      refine ⟨wanted_of (k := 37) rfl rfl rfl (known_at ha hsz hlen hl 21 (by decide) (hd ⟨21, .guard⟩ (by simp) rfl)), ?_⟩
      have ev : a.tmps[8]? = some (.pointer (some ⟨b8, 0, none⟩)) := by rw [ha, putAll_low A 16 8 l (by omega) (by decide)]; exact s8
      obtain ⟨z0, z1, z2, _⟩ := obj_cells ((hB.block _ (lt_of_block E8)).trans E8)
      refine wp_value (w' := w') (v := .agg #[.int .i64 c, .slice ga sn gc, .slice qa bn qc]) (by simp [execOp, ev, go_sem, z0, z1, z2]) ?_
      exact ⟨_, xa, xn, xc, by rw [ha]; exact putAll_put A 16 22 l _ (by omega) (by omega), by rw [List.length_set]; exact hlen, hB, set_known hlen (by decide) hl, fun h => (hri (h.resolve_left (by decide)))⟩
    | 23, ho =>
      cases Option.some.inj ho
      refine ⟨wanted_of (k := 37) rfl rfl rfl (known_at ha hsz hlen hl 21 (by decide) (hd ⟨21, .guard⟩ (by simp) rfl)), ?_⟩
      have ev : a.tmps[4]? = some (.pointer (some ⟨b4, 0, none⟩)) := by rw [ha, putAll_low A 16 4 l (by omega) (by decide)]; exact s4
      obtain ⟨z0, z1, z2, _⟩ := obj_cells ((hB.block _ (lt_of_block E4)).trans E4)
      refine wp_value (w' := w') (v := .agg #[.int .i64 c, .slice sa sn sc, .slice ba bn bc]) (by simp [execOp, ev, go_sem, z0, z1, z2]) ?_
      exact ⟨_, xa, xn, xc, by rw [ha]; exact putAll_put A 16 23 l _ (by omega) (by omega), by rw [List.length_set]; exact hlen, hB, set_known hlen (by decide) hl, fun h => (hri (h.resolve_left (by decide)))⟩
    | 24, ho =>
      cases Option.some.inj ho
      refine ⟨wanted_of (k := 37) rfl rfl rfl (known_at ha hsz hlen hl 21 (by decide) (hd ⟨21, .guard⟩ (by simp) rfl)), ?_⟩
      have ev : a.tmps[38]? = some (.agg #[.int .i64 c, .slice ga sn gc, .slice qa bn qc]) := known_at ha hsz hlen hl 22 (by decide) (hd ⟨22, .data⟩ (by simp) rfl)
      have ev' : a.tmps[39]? = some (.agg #[.int .i64 c, .slice sa sn sc, .slice ba bn bc]) := known_at ha hsz hlen hl 23 (by decide) (hd ⟨23, .data⟩ (by simp) rfl)
      refine wp_enter (f := 17) (args := #[.agg #[.int .i64 c, .slice ga sn gc, .slice qa bn qc], .agg #[.int .i64 c, .slice sa sn sc, .slice ba bn bc]]) (by simp [execOp, ev, ev', go_sem]) ?_
      refine (rsame_self (IC.below hB) (IA.below hB)).mono ?_
      rintro e w6 ⟨rfl, HB⟩
      refine ⟨_, rfl, ?_⟩
      exact ⟨_, xa, xn, xc, by rw [ha]; exact putAll_put A 16 24 l _ (by omega) (by omega), by rw [List.length_set]; exact hlen, below_size hB hB.size HB, set_known hlen (by decide) hl, fun h => (hri (h.resolve_left (by decide))).below HB⟩
    | 25, ho =>
      cases Option.some.inj ho
      refine ⟨wanted_of (k := 37) rfl rfl rfl (known_at ha hsz hlen hl 21 (by decide) (hd ⟨21, .guard⟩ (by simp) rfl)), ?_⟩
      have ev : a.tmps[40]? = some (.bool true) := known_at ha hsz hlen hl 24 (by decide) (hd ⟨24, .data⟩ (by simp) rfl)
      refine wp_value (w' := w') (v := .bool false) (by simp [execOp, ev, go_sem]) ?_
      exact ⟨_, xa, xn, xc, by rw [ha]; exact putAll_put A 16 25 l _ (by omega) (by omega), by rw [List.length_set]; exact hlen, hB, set_known hlen (by decide) hl, fun h => (hri (h.resolve_left (by decide)))⟩
    | 26, ho =>
      cases Option.some.inj ho
      refine ⟨rfl, ?_⟩
      have ev : a.tmps[37]? = some (.bool false) := known_at ha hsz hlen hl 21 (by decide) (hd ⟨21, .data⟩ (by simp) rfl)
      have ev' : a.tmps[41]? = some (.bool false) := known_at ha hsz hlen hl 25 (by decide) (hd ⟨25, .data⟩ (by simp) rfl)
      refine wp_value (w' := w') (v := .bool false) (by simp [execOp, ev, ev', go_sem]) ?_
      exact ⟨_, xa, xn, xc, by rw [ha]; exact putAll_put A 16 26 l _ (by omega) (by omega), by rw [List.length_set]; exact hlen, hB, set_known hlen (by decide) hl, fun h => (hri (h.resolve_left (by decide)))⟩
    | 27, ho =>
      cases Option.some.inj ho
      refine ⟨rfl, ?_⟩
      have ev : a.tmps[42]? = some (.bool false) := known_at ha hsz hlen hl 26 (by decide) (hd ⟨26, .data⟩ (by simp) rfl)
      refine wp_value (w' := w') (v := .bool false) (by simp [execOp, ev, go_sem]) ?_
      exact ⟨_, xa, xn, xc, by rw [ha]; exact putAll_put A 16 27 l _ (by omega) (by omega), by rw [List.length_set]; exact hlen, hB, set_known hlen (by decide) hl, fun h => (hri (h.resolve_left (by decide)))⟩
    | 28, ho =>
      cases Option.some.inj ho
      refine ⟨wanted_of (k := 43) rfl rfl rfl (known_at ha hsz hlen hl 27 (by decide) (hd ⟨27, .guard⟩ (by simp) rfl)), ?_⟩
      have ev : a.tmps[9]? = some (.slice ra rn rc) := by rw [ha, putAll_low A 16 9 l (by omega) (by decide)]; exact s9
      refine wp_value (w' := w') (v := .slice ra rn rc) (by simp [execOp, ev, go_sem]) ?_
      exact ⟨_, xa, xn, xc, by rw [ha]; exact putAll_put A 16 28 l _ (by omega) (by omega), by rw [List.length_set]; exact hlen, hB, set_known hlen (by decide) hl, fun h => (hri (h.resolve_left (by decide)))⟩
    | 29, ho =>
      cases Option.some.inj ho
      refine ⟨wanted_of (k := 43) rfl rfl rfl (known_at ha hsz hlen hl 27 (by decide) (hd ⟨27, .guard⟩ (by simp) rfl)), ?_⟩
      have ev : a.tmps[4]? = some (.pointer (some ⟨b4, 0, none⟩)) := by rw [ha, putAll_low A 16 4 l (by omega) (by decide)]; exact s4
      obtain ⟨z0, z1, z2, _⟩ := obj_cells ((hB.block _ (lt_of_block E4)).trans E4)
      refine wp_value (w' := w') (v := .agg #[.int .i64 c, .slice sa sn sc, .slice ba bn bc]) (by simp [execOp, ev, go_sem, z0, z1, z2]) ?_
      exact ⟨_, xa, xn, xc, by rw [ha]; exact putAll_put A 16 29 l _ (by omega) (by omega), by rw [List.length_set]; exact hlen, hB, set_known hlen (by decide) hl, fun h => (hri (h.resolve_left (by decide)))⟩
    | 30, ho =>
      cases Option.some.inj ho
      refine ⟨wanted_of (k := 43) rfl rfl rfl (known_at ha hsz hlen hl 27 (by decide) (hd ⟨27, .guard⟩ (by simp) rfl)), ?_⟩
      have ev : a.tmps[45]? = some (.agg #[.int .i64 c, .slice sa sn sc, .slice ba bn bc]) := known_at ha hsz hlen hl 29 (by decide) (hd ⟨29, .data⟩ (by simp) rfl)
      refine wp_enter (f := 19) (args := #[.agg #[.int .i64 c, .slice sa sn sc, .slice ba bn bc]]) (by simp [execOp, ev, go_sem]) ?_
      refine (rrefs_any (IA.below hB).v hs).mono ?_
      rintro e w6 ⟨v', rfl, OI, HB⟩
      refine ⟨_, rfl, ?_⟩
      obtain ⟨xa', xn', xc', rfl⟩ := OI.shape'
      exact ⟨_, xa', xn', xc', by rw [ha]; exact putAll_put A 16 30 l _ (by omega) (by omega), by rw [List.length_set]; exact hlen, below_size hB hB.size HB, set_known' (val' := tellV k n c d sa ba ta ea oa pa ga qa ra xa' sn sc bn bc tn tc en ec oc pc gc qc rn rc xn' xc' q1 q2 q3) hlen (by decide) hl (fun j hj hne => match j, hj, hne with | 0, _, _ => rfl | 1, _, _ => rfl | 2, _, _ => rfl | 3, _, _ => rfl | 4, _, _ => rfl | 5, _, _ => rfl | 6, _, _ => rfl | 7, _, _ => rfl | 8, _, _ => rfl | 9, _, _ => rfl | 10, _, _ => rfl | 11, _, _ => rfl | 12, _, _ => rfl | 13, _, _ => rfl | 14, _, _ => rfl | 15, _, _ => rfl | 16, _, _ => rfl | 17, _, _ => rfl | 18, _, _ => rfl | 19, _, _ => rfl | 20, _, _ => rfl | 21, _, _ => rfl | 22, _, _ => rfl | 23, _, _ => rfl | 24, _, _ => rfl | 25, _, _ => rfl | 26, _, _ => rfl | 27, _, _ => rfl | 28, _, _ => rfl | 29, _, _ => rfl | 30, _, hne => absurd rfl hne | 31, _, _ => rfl | 32, _, _ => rfl | 33, _, _ => rfl | j + 34, _, _ => rfl), fun _ => own_lower OI hB.size⟩
    | 31, ho =>
      cases Option.some.inj ho
      refine ⟨wanted_of (k := 43) rfl rfl rfl (known_at ha hsz hlen hl 27 (by decide) (hd ⟨27, .guard⟩ (by simp) rfl)), ?_⟩
      have ev : a.tmps[44]? = some (.slice ra rn rc) := known_at ha hsz hlen hl 28 (by decide) (hd ⟨28, .data⟩ (by simp) rfl)
      have ev' : a.tmps[46]? = some (.slice xa xn xc) := known_at ha hsz hlen hl 30 (by decide) (hd ⟨30, .data⟩ (by simp) rfl)
      refine wp_enter (f := 18) (args := #[.slice ra rn rc, .slice xa xn xc]) (by simp [execOp, ev, ev', go_sem]) ?_
      refine (sameI_b (hi.below hB) (hri (hd ⟨30, .data⟩ (by simp) rfl)) hrn).mono ?_
      rintro e w6 ⟨rfl, HB⟩
      refine ⟨_, rfl, ?_⟩
      exact ⟨_, xa, xn, xc, by rw [ha]; exact putAll_put A 16 31 l _ (by omega) (by omega), by rw [List.length_set]; exact hlen, below_size hB hB.size HB, set_known hlen (by decide) hl, fun h => (hri (h.resolve_left (by decide))).below HB⟩
    | 32, ho =>
      cases Option.some.inj ho
      refine ⟨wanted_of (k := 43) rfl rfl rfl (known_at ha hsz hlen hl 27 (by decide) (hd ⟨27, .guard⟩ (by simp) rfl)), ?_⟩
      have ev : a.tmps[47]? = some (.bool true) := known_at ha hsz hlen hl 31 (by decide) (hd ⟨31, .data⟩ (by simp) rfl)
      refine wp_value (w' := w') (v := .bool false) (by simp [execOp, ev, go_sem]) ?_
      exact ⟨_, xa, xn, xc, by rw [ha]; exact putAll_put A 16 32 l _ (by omega) (by omega), by rw [List.length_set]; exact hlen, hB, set_known hlen (by decide) hl, fun h => (hri (h.resolve_left (by decide)))⟩
    | 33, ho =>
      cases Option.some.inj ho
      refine ⟨rfl, ?_⟩
      have ev : a.tmps[43]? = some (.bool false) := known_at ha hsz hlen hl 27 (by decide) (hd ⟨27, .data⟩ (by simp) rfl)
      have ev' : a.tmps[48]? = some (.bool false) := known_at ha hsz hlen hl 32 (by decide) (hd ⟨32, .data⟩ (by simp) rfl)
      refine wp_value (w' := w') (v := .bool false) (by simp [execOp, ev, ev', go_sem]) ?_
      exact ⟨_, xa, xn, xc, by rw [ha]; exact putAll_put A 16 33 l _ (by omega) (by omega), by rw [List.length_set]; exact hlen, hB, set_known hlen (by decide) hl, fun h => (hri (h.resolve_left (by decide)))⟩
    | i + 34, ho => simp at ho
  case done =>
    rintro D a w' ⟨l, xa, xn, xc, ha, hlen, hB, hl, hri⟩ hall
    obtain ⟨v0, v1, v2, v3, v4, v5, v6, v7, v8, v9, v10, v11, v12, v13, v14, v15, v16, v17, v18, v19, v20, v21, v22, v23, v24, v25, v26, v27, v28, v29, v30, v31, v32, v33, rfl⟩ := tellV_list hlen
    have hz := hl 33 (by decide) (hall 33 (by decide))
    simp only [List.getElem?_cons_succ, List.getElem?_cons_zero, Option.some.injEq] at hz
    have hz' : v33 = .bool false := hz
    subst hz'
    subst hA
    have hfr : a = _ := ha
    rw [hfr]
    clear hfr ha
    simp only [putAll, List.take_succ_cons, List.take_zero, List.drop_succ_cons, List.drop_zero, List.cons_append, List.nil_append, List.length_cons, List.length_nil]
    clear hl hri hall
    replace E8 := (hB.block _ (lt_of_block E8)).trans E8
    obtain ⟨z0, z1, z2, zf⟩ := obj_cells E8
    clear c12 c13 c14 c15 c16 c17
    go_wp2_with fail
    refine (spoil_obj (V6.below hB) (O6.below hB)).mono ?_
    rintro e wy ⟨rfl, K⟩
    have By := fin _ _ hB K
    have E4' := (By.block _ (lt_of_block E40)).trans E40
    have E7' := (By.block _ (lt_of_block E70)).trans E70
    have h1 := ho0.below By
    have h2 := ha0.below By
    have Bz := B5.trans (By.mono B5.size)
    clear z0 z1 z2 zf K By fin E8 V6 O6 hB IA IB IO IC hi
    obtain ⟨z0, z1, z2, zf⟩ := obj_cells E7'
    obtain ⟨y0, y1, y2, yf⟩ := obj_cells E4'
    go_wp2_with fail
    refine (rsame_self h1 h2).mono ?_
    rintro e w8 ⟨rfl, B8⟩
    clear z0 z1 z2 zf y0 y1 y2 yf
    go_wp2_with fail
    refine (known_true _).mono ?_
    rintro e w9 ⟨rfl, B9⟩
    go_wp2
    go_ret
    exact ⟨rfl, below_size (below_size Bz Bz.size B8) (below_size Bz Bz.size B8).size B9⟩
end Go.Proofs.Ytjfaflmmanjjbaa
