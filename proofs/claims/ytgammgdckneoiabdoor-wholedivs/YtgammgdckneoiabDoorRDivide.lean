/- The document's divide. -/
import Derived.Test.YtgammgdckneoiabDoorAppKeep
import Derived.Test.YtgammgdckneoiabDoorRSum
import Derived.Test.YtgammgdckneoiabDoorRLess
import Derived.Test.YtgammgdckneoiabDoorDivAny
namespace Go.Proofs.YtgammgdckneoiabDoor
open Go.RowKit

theorem run_fieldT (b : Bool) (v : Value) (w : World) : (Instr.field 24 (.agg #[.bool b, v]) 1).run Tryd.prog w = .ok v w := by
  simp [Instr.field, go_sem]
  rfl
theorem val8_takeT (xs : List Int) (k c : Nat) (h : xs.take (k + 1) = xs.take k ++ [(c : Int)]) : val8 (xs.take (k + 1)) = val8 (xs.take k) * 256 + c := by
  rw [h, val8_snoc]; simp

theorem wp_app1 {o : Oper} {a : Act} {w : World} {K : Act → World → Prop} {Q : Exit → Act → World → Prop} (s x : Operand)
    (ho : o.op = .call { callee := .builtin .append, args := #[s, x], argTypes := #[22, 22] })
    (base : Nat) (v : Value) (n : Nat) (xs : List Int) (hs : a.eval s = v) (hown : w.ownsRow base 5 1 v n (xs.map (Value.int .u8)))
    (ad : Addr) (len cap : Nat) (ys : List Int) (hx : a.eval x = .slice (some ad) len cap) (hB : IsB w (some ad) len cap ys) (h47 : n + len ≤ 140737488355328) (hbase : base ≤ w.heap.size)
    (h : ∀ v' w', w'.ownsRow base 5 1 v' (n + len) ((xs ++ ys).map (Value.int .u8)) → Below base w w' → K (a.put o.dst v') w') : o.wp Tryd.prog a w K Q := by
  obtain ⟨i0, hi, hz0, hz1, hz2⟩ := info_parts Tryd.info5
  refine wp_append_own w s x 22 ho base 5 i0 (.int .u8 0) 1 1 Tryd.underlying22 hi hz0 hz1 hz2 rfl (by decide) v n _ hs hown ad len cap (ys.map (Value.int .u8)) hx hB.lenMap (hB.cellsAt ad rfl) hB.one (by unfold maxLen; omega) (by omega) hbase ?_
  intro v' w' hown' hgrow _
  rw [← List.map_append] at hown'
  exact h v' w' hown' ((Below.refl _ _).grown hgrow hbase (fun j hj => (hown.lt j hj).1))

theorem long_step (A Y c : Nat) : (A * 256 + c) / Y = A / Y * 256 + (A % Y * 256 + c) / Y ∧ (A * 256 + c) % Y = (A % Y * 256 + c) % Y := by
  rcases Nat.eq_zero_or_pos Y with rfl | hY
  · simp
  have e : A * 256 + c = Y * (A / Y * 256) + (A % Y * 256 + c) := by
    have h := Nat.div_add_mod A Y
    calc A * 256 + c = (Y * (A / Y) + A % Y) * 256 + c := by rw [h]
      _ = Y * (A / Y * 256) + (A % Y * 256 + c) := by rw [Nat.add_mul, Nat.mul_assoc, Nat.add_assoc]
  rw [e]
  exact ⟨Nat.mul_add_div hY _ _, Nat.mul_add_mod _ _ _⟩
theorem isB_none (w : World) : IsB w none 0 0 [] := by
  obtain ⟨a, cap, h, hI⟩ := (ownB_of (v := .slice none 0 0) (xs := []) (n := 0) (World.ownsRow_nil w w.heap.size 5 1) (by simp)).2
  simp only [Value.slice.injEq] at h
  obtain ⟨rfl, _, rfl⟩ := h
  exact hI
theorem own_hi {w : World} {base len cap : Nat} {a : Option Addr} {xs : List Int} (h : OwnB w base (.slice a len cap) xs) : ∀ b off, a = some ⟨b, off, none⟩ → base ≤ b := by
  intro b off he
  have ho := h.1
  rw [he] at ho
  rcases ho.2 with ⟨h', _⟩ | ⟨g', cap', cur, h', hg', _⟩
  · simp at h'
  · simp at h'; omega
theorem isB_setRow {w : World} {a : Option Addr} {len cap base k : Nat} {xs : List Int} {C : Array Value} (h : IsB w a len cap xs) (hb : ∀ b off, a = some ⟨b, off, none⟩ → base ≤ b) (hk : k < base) : IsB (w.setRow k C) a len cap xs :=
  h.keep (fun b off he _ => setRow_other w k b C (by have := hb b off he; omega))
theorem lead_mag (n : Nat) : Lead (mag n) := by
  cases h : mag n with
  | nil => exact .inl rfl
  | cons b r =>
    refine .inr ?_
    intro hb
    have hb' : b = 0 := by simpa using hb
    subst hb'
    have hv := val8_mag n
    have hl := mag_len n
    have hx := mag_lt n
    rw [h] at hv hl hx
    have e : val8 ((0 : Int) :: r) = val8 r := by simp [val8]
    have hlt := val8_lt r (fun x hx' => hx x (List.mem_cons_of_mem _ hx'))
    rw [← e, hv] at hlt
    have := (blen_le n r.length).2 hlt
    simp at hl
    omega

set_option maxRecDepth 100000 in
set_option maxHeartbeats 4000000 in
theorem rdivide_any {a1 a2 : Option Addr} {l1 l2 c1 c2 : Nat} {xs ys : List Int} {w : World} (h1 : IsB w a1 l1 c1 xs) (h2 : IsB w a2 l2 c2 ys) (d2 : Lead ys) (m1 : l1 ≤ 128) (m2 : l2 ≤ 128) (h0 : val8 ys ≠ 0) :
    Calls Tryd.prog 66 #[.slice a1 l1 c1, .slice a2 l2 c2] w fun e w' => ∃ v1 v2 zs, e = .returned (.tuple #[v1, v2]) ∧ OwnB w' w.heap.size v1 zs ∧ val8 zs = val8 xs / val8 ys ∧ zs.length = l1 ∧ (∃ rp rc, v2 = .slice rp (blen (val8 xs % val8 ys)) rc ∧ IsB w' rp (blen (val8 xs % val8 ys)) rc (mag (val8 xs % val8 ys)) ∧ ∀ b off, rp = some ⟨b, off, none⟩ → w.heap.size ≤ b) ∧ Below w.heap.size w w' := by
  have hsz := h1.size
  have hYl : val8 ys < 256 ^ 128 := Nat.lt_of_lt_of_le (val8_lt ys h2.byte) (Nat.pow_le_pow_right (by decide) (by rw [h2.size]; exact m2))
  obtain ⟨Y, HY⟩ : ∃ Y, Hid (val8 ys = Y) := ⟨_, rfl⟩
  rw [HY.out] at h0 hYl ⊢
  go_enter Tryd.func66, Tryd.ntmps66
  go_wp2
  go_loopw [8, 7, 6] (fun i r q wr => ∃ (k : Nat) (zs : List Int), k ≤ l1 ∧ i = .int .i64 k ∧ (∃ rp rc, r = .slice rp (blen (val8 (xs.take k) % Y)) rc ∧ IsB wr rp (blen (val8 (xs.take k) % Y)) rc (mag (val8 (xs.take k) % Y)) ∧ ∀ b off, rp = some ⟨b, off, none⟩ → w.heap.size ≤ b) ∧ zs.length = k ∧ Hid (val8 zs = val8 (xs.take k) / Y) ∧ OwnB wr w.heap.size q zs ∧ Below w.heap.size w wr) (fun i _ _ _ => l1 - (intOf i).toNat)
  case atStart => exact ⟨0, [], Nat.zero_le _, rfl, by rw [List.take_zero, show val8 [] = 0 from rfl, Nat.zero_mod]; exact ⟨none, 0, rfl, isB_none w, fun b off h => by cases h⟩, rfl, by show _ = _; rw [List.take_zero, show val8 [] = 0 from rfl, Nat.zero_div], ownB_of (n := 0) (World.ownsRow_nil _ _ _ _) (by simp), Below.refl _ _⟩
  case round =>
    obtain ⟨k, zs, hk, rfl, hOr, hzl, hv, hOq, hW⟩ := hrel
    by_cases hlt : k < l1
    · have hltI : (k : Int) < (l1 : Int) := by omega
      have hk0 : (0 : Int) ≤ (k : Int) := by omega
      obtain ⟨b, off, rfl, hc⟩ := (h1.below hW).cells (by omega)
      obtain ⟨c, hc8, hcx, htk⟩ := byteAt xs h1.byte k (by omega)
      have hck : ∀ w', Below wr.heap.size wr w' → w'.cell? ⟨b, off + k, none⟩ = some (.int .u8 (c : Int)) := by
        intro w' hB'
        have := hc k hlt
        rw [hcx] at this
        exact (World.cell?_of_block (w := wr) (hB'.block _ (block_lt_of_cell this))).trans this
      have hA := val8_takeT xs k c htk.out
      obtain ⟨A, HA⟩ : ∃ A, Hid (val8 (xs.take k) = A) := ⟨_, rfl⟩
      rw [HA.out] at hA hOr hv
      have Hnx : Hid (val8 (xs.take (k + 1)) = A * 256 + c) := hA
      obtain ⟨X, HX⟩ : ∃ X, Hid (A % Y = X) := ⟨_, rfl⟩
      rw [HX.out] at hOr
      have hXY : X < Y := by rw [← HX.out]; exact Nat.mod_lt _ (by omega)
      obtain ⟨rp, rc, rfl, hR, _⟩ := hOr
      have hXl : blen X ≤ 128 := (blen_le _ _).2 (Nat.lt_trans hXY hYl)
      obtain ⟨rl, Hrl⟩ : ∃ rl, Hid (blen X = rl) := ⟨_, rfl⟩
      rw [Hrl.out] at hR hXl ⊢
      have hcb : ∀ z ∈ mag X ++ [(c : Int)], 0 ≤ z ∧ z < 256 := append_bytes _ [(c : Int)] hR.byte (fun z hz => by rw [List.mem_singleton.1 hz]; omega)
      clear hA hc hcx
      go_wp2
      refine wp_region_inv' (fun A D a w' => ∃ v16 v17 v18 v19 v20 v21 v22 v23 v24 v7 pv bs nv, a = ((((((((((A.put (some 16) v16).put (some 17) v17).put (some 18) v18).put (some 19) v19).put (some 20) v20).put (some 21) v21).put (some 22) v22).put (some 23) v23).put (some 24) v24).put (some 7) v7) ∧ Below wr.heap.size wr w' ∧ (D 9 ∨ v7 = (.slice rp rl rc)) ∧ (D 0 → v16 = .slice rp rl rc) ∧ (D 1 → v17 = .agg #[.bool false, pv]) ∧ (D 2 → v18 = pv) ∧ (D 3 → v19 = .slice (some ⟨b, off, none⟩) l1 c1) ∧ (D 4 → v20 = .int .i64 k) ∧ (D 5 → v21 = .pointer (some ⟨b, off + k, none⟩)) ∧ (D 6 → v22 = .int .u8 c) ∧ (D 7 → v23 = .slice (some ⟨bs, 0, none⟩) 1 1) ∧ (D 8 → v24 = nv) ∧ (D 9 → v7 = nv) ∧ (D 1 → (D 8 ∨ OwnB w' wr.heap.size pv (mag X))) ∧ (D 7 → (D 8 ∨ (wr.heap.size ≤ bs ∧ IsB w' (some ⟨bs, 0, none⟩) 1 1 [(c : Int)]))) ∧ (D 8 → OwnB w' wr.heap.size nv (mag X ++ [(c : Int)]))) (by kernel_rfl) (by kernel_rfl) ?mono ?start ?step ?done
      case mono =>
        rintro D D' a w' hD ⟨v16, v17, v18, v19, v20, v21, v22, v23, v24, v7, pv, bs, nv, ha, hB, o7, e0, e1, e2, e3, e4, e5, e6, e7, e8, e9, o1, o3, o8⟩
        exact ⟨v16, v17, v18, v19, v20, v21, v22, v23, v24, v7, pv, bs, nv, ha, hB, o7.imp_left (hD 9).1, fun h => e0 ((hD 0).2 h), fun h => e1 ((hD 1).2 h), fun h => e2 ((hD 2).2 h), fun h => e3 ((hD 3).2 h), fun h => e4 ((hD 4).2 h), fun h => e5 ((hD 5).2 h), fun h => e6 ((hD 6).2 h), fun h => e7 ((hD 7).2 h), fun h => e8 ((hD 8).2 h), fun h => e9 ((hD 9).2 h), fun h => (o1 ((hD 1).2 h)).imp_left (hD 8).1, fun h => (o3 ((hD 7).2 h)).imp_left (hD 8).1, fun h => o8 ((hD 8).2 h)⟩
      case start => exact ⟨u16, u17, u18, u19, u20, u21, u22, u23, u24, (.slice rp rl rc), undef, 0, undef, by kernel_rfl, (Below.refl _ _).drew, .inr rfl, fun h => h.elim, fun h => h.elim, fun h => h.elim, fun h => h.elim, fun h => h.elim, fun h => h.elim, fun h => h.elim, fun h => h.elim, fun h => h.elim, fun h => h.elim, fun h => h.elim, fun h => h.elim, fun h => h.elim⟩
      case step =>
        intro i o ho D a w' hI hn hcl hd
        obtain ⟨v16, v17, v18, v19, v20, v21, v22, v23, v24, v7, pv, bs, nv, ha, hB, o7, e0, e1, e2, e3, e4, e5, e6, e7, e8, e9, o1, o3, o8⟩ := hI
        match i, ho with
        | 0, ho =>
          cases Option.some.inj ho
          have ev : a.tmps[7]?.getD undef = .slice rp rl rc := by rw [ha, o7.resolve_left (fun h => (fun h => (fun h => (fun h => hn (hcl 1 _ rfl h ⟨0, .data⟩ (by simp) rfl)) (hcl 2 _ rfl h ⟨1, .data⟩ (by simp) rfl)) (hcl 8 _ rfl h ⟨2, .data⟩ (by simp) rfl)) (hcl 9 _ rfl h ⟨8, .data⟩ (by simp) rfl))]; kernel_rfl
          refine wp_value (w' := w') (v := .slice rp rl rc) (by simp [execOp, ev, go_sem]) ?_
          exact ⟨(.slice rp rl rc), v17, v18, v19, v20, v21, v22, v23, v24, v7, pv, bs, nv, by rw [ha]; kernel_rfl, hB, o7.imp_left .inr, fun _ => rfl, fun h => e1 (h.resolve_left (by decide)), fun h => e2 (h.resolve_left (by decide)), fun h => e3 (h.resolve_left (by decide)), fun h => e4 (h.resolve_left (by decide)), fun h => e5 (h.resolve_left (by decide)), fun h => e6 (h.resolve_left (by decide)), fun h => e7 (h.resolve_left (by decide)), fun h => e8 (h.resolve_left (by decide)), fun h => e9 (h.resolve_left (by decide)), fun h => (o1 (h.resolve_left (by decide))).imp_left .inr, fun h => (o3 (h.resolve_left (by decide))).imp_left .inr, fun h => o8 (h.resolve_left (by decide))⟩
        | 1, ho =>
          cases Option.some.inj ho
          have ev : a.tmps[16]?.getD undef = .slice rp rl rc := by rw [ha, e0 (hd ⟨0, .data⟩ (by simp) rfl)]; kernel_rfl
          refine wp_enter (f := 38) (args := #[.bool false, .slice rp rl rc]) (by simp [execOp, ev, go_sem]) ?_
          refine (made_any false (hR.below hB) (by omega)).mono ?_
          rintro e w6 ⟨pn, rfl, hO, HB⟩
          refine ⟨_, rfl, ?_⟩
          rw [Bool.false_and]
          rw [val8_mag] at hO
          have hO' := hO.mono hB.size
          exact ⟨v16, (.agg #[.bool false, pn]), v18, v19, v20, v21, v22, v23, v24, v7, pn, bs, nv, by rw [ha]; kernel_rfl, below_size hB (Nat.le_refl _) HB, o7.imp_left .inr, fun h => e0 (h.resolve_left (by decide)), fun _ => rfl, fun h => absurd (h.resolve_left (by decide)) (fun h => hn (hcl 2 _ rfl h ⟨1, .data⟩ (by simp) rfl)), fun h => e3 (h.resolve_left (by decide)), fun h => e4 (h.resolve_left (by decide)), fun h => e5 (h.resolve_left (by decide)), fun h => e6 (h.resolve_left (by decide)), fun h => e7 (h.resolve_left (by decide)), fun h => e8 (h.resolve_left (by decide)), fun h => e9 (h.resolve_left (by decide)), fun _ => .inr hO', fun h => (o3 (h.resolve_left (by decide))).elim (fun h => .inl (.inr h)) (fun h => .inr ⟨h.1, h.2.below HB⟩), fun h => (o8 (h.resolve_left (by decide))).below HB⟩
        | 2, ho =>
          cases Option.some.inj ho
          have ev : a.tmps[17]?.getD undef = .agg #[.bool false, pv] := by rw [ha, e1 (hd ⟨1, .data⟩ (by simp) rfl)]; kernel_rfl
          refine wp_value (w' := w') (v := pv) (by have hf := run_fieldT false pv w'; simp [execOp, ev, go_sem, hf]) ?_
          exact ⟨v16, v17, (pv), v19, v20, v21, v22, v23, v24, v7, pv, bs, nv, by rw [ha]; kernel_rfl, hB, o7.imp_left .inr, fun h => e0 (h.resolve_left (by decide)), fun h => e1 (h.resolve_left (by decide)), fun _ => rfl, fun h => e3 (h.resolve_left (by decide)), fun h => e4 (h.resolve_left (by decide)), fun h => e5 (h.resolve_left (by decide)), fun h => e6 (h.resolve_left (by decide)), fun h => e7 (h.resolve_left (by decide)), fun h => e8 (h.resolve_left (by decide)), fun h => e9 (h.resolve_left (by decide)), fun h => (o1 (h.resolve_left (by decide))).imp_left .inr, fun h => (o3 (h.resolve_left (by decide))).imp_left .inr, fun h => o8 (h.resolve_left (by decide))⟩
        | 3, ho =>
          cases Option.some.inj ho
          have ev : a.tmps[0]?.getD undef = .slice (some ⟨b, off, none⟩) l1 c1 := by rw [ha]; kernel_rfl
          refine wp_value (w' := w') (v := .slice (some ⟨b, off, none⟩) l1 c1) (by simp [execOp, ev, go_sem]) ?_
          exact ⟨v16, v17, v18, (.slice (some ⟨b, off, none⟩) l1 c1), v20, v21, v22, v23, v24, v7, pv, bs, nv, by rw [ha]; kernel_rfl, hB, o7.imp_left .inr, fun h => e0 (h.resolve_left (by decide)), fun h => e1 (h.resolve_left (by decide)), fun h => e2 (h.resolve_left (by decide)), fun _ => rfl, fun h => e4 (h.resolve_left (by decide)), fun h => e5 (h.resolve_left (by decide)), fun h => e6 (h.resolve_left (by decide)), fun h => e7 (h.resolve_left (by decide)), fun h => e8 (h.resolve_left (by decide)), fun h => e9 (h.resolve_left (by decide)), fun h => (o1 (h.resolve_left (by decide))).imp_left .inr, fun h => (o3 (h.resolve_left (by decide))).imp_left .inr, fun h => o8 (h.resolve_left (by decide))⟩
        | 4, ho =>
          cases Option.some.inj ho
          have ev : a.tmps[8]?.getD undef = .int .i64 k := by rw [ha]; kernel_rfl
          refine wp_value (w' := w') (v := .int .i64 k) (by simp [execOp, ev, go_sem]) ?_
          exact ⟨v16, v17, v18, v19, (.int .i64 k), v21, v22, v23, v24, v7, pv, bs, nv, by rw [ha]; kernel_rfl, hB, o7.imp_left .inr, fun h => e0 (h.resolve_left (by decide)), fun h => e1 (h.resolve_left (by decide)), fun h => e2 (h.resolve_left (by decide)), fun h => e3 (h.resolve_left (by decide)), fun _ => rfl, fun h => e5 (h.resolve_left (by decide)), fun h => e6 (h.resolve_left (by decide)), fun h => e7 (h.resolve_left (by decide)), fun h => e8 (h.resolve_left (by decide)), fun h => e9 (h.resolve_left (by decide)), fun h => (o1 (h.resolve_left (by decide))).imp_left .inr, fun h => (o3 (h.resolve_left (by decide))).imp_left .inr, fun h => o8 (h.resolve_left (by decide))⟩
        | 5, ho =>
          cases Option.some.inj ho
          have ev : a.tmps[19]?.getD undef = .slice (some ⟨b, off, none⟩) l1 c1 := by rw [ha, e3 (hd ⟨3, .data⟩ (by simp) rfl)]; kernel_rfl
          have ev' : a.tmps[20]?.getD undef = .int .i64 k := by rw [ha, e4 (hd ⟨4, .data⟩ (by simp) rfl)]; kernel_rfl
          refine wp_value (w' := w') (v := .pointer (some ⟨b, off + k, none⟩)) (by simp [execOp, ev, ev', go_sem, hltI, hk0]) ?_
          exact ⟨v16, v17, v18, v19, v20, (.pointer (some ⟨b, off + k, none⟩)), v22, v23, v24, v7, pv, bs, nv, by rw [ha]; kernel_rfl, hB, o7.imp_left .inr, fun h => e0 (h.resolve_left (by decide)), fun h => e1 (h.resolve_left (by decide)), fun h => e2 (h.resolve_left (by decide)), fun h => e3 (h.resolve_left (by decide)), fun h => e4 (h.resolve_left (by decide)), fun _ => rfl, fun h => e6 (h.resolve_left (by decide)), fun h => e7 (h.resolve_left (by decide)), fun h => e8 (h.resolve_left (by decide)), fun h => e9 (h.resolve_left (by decide)), fun h => (o1 (h.resolve_left (by decide))).imp_left .inr, fun h => (o3 (h.resolve_left (by decide))).imp_left .inr, fun h => o8 (h.resolve_left (by decide))⟩
        | 6, ho =>
          cases Option.some.inj ho
          have ev : a.tmps[21]?.getD undef = .pointer (some ⟨b, off + k, none⟩) := by rw [ha, e5 (hd ⟨5, .data⟩ (by simp) rfl)]; kernel_rfl
          have hck' := hck w' hB
          refine wp_value (w' := w') (v := .int .u8 c) (by simp [execOp, ev, go_sem, hck']) ?_
          exact ⟨v16, v17, v18, v19, v20, v21, (.int .u8 c), v23, v24, v7, pv, bs, nv, by rw [ha]; kernel_rfl, hB, o7.imp_left .inr, fun h => e0 (h.resolve_left (by decide)), fun h => e1 (h.resolve_left (by decide)), fun h => e2 (h.resolve_left (by decide)), fun h => e3 (h.resolve_left (by decide)), fun h => e4 (h.resolve_left (by decide)), fun h => e5 (h.resolve_left (by decide)), fun _ => rfl, fun h => e7 (h.resolve_left (by decide)), fun h => e8 (h.resolve_left (by decide)), fun h => e9 (h.resolve_left (by decide)), fun h => (o1 (h.resolve_left (by decide))).imp_left .inr, fun h => (o3 (h.resolve_left (by decide))).imp_left .inr, fun h => o8 (h.resolve_left (by decide))⟩
        | 7, ho =>
          cases Option.some.inj ho
          have ev : a.tmps[22]?.getD undef = .int .u8 c := by rw [ha, e6 (hd ⟨6, .data⟩ (by simp) rfl)]; kernel_rfl
          refine wp_value (w' := w'.alloc (.cells #[.int .u8 (c : Int)] 5)) (v := .slice (some ⟨w'.heap.size, 0, none⟩) 1 1) (by simp [execOp, ev, go_sem]) ?_
          exact ⟨v16, v17, v18, v19, v20, v21, v22, (.slice (some ⟨w'.heap.size, 0, none⟩) 1 1), v24, v7, pv, w'.heap.size, nv, by rw [ha]; kernel_rfl, hB.alloc hB.size _, o7.imp_left .inr, fun h => e0 (h.resolve_left (by decide)), fun h => e1 (h.resolve_left (by decide)), fun h => e2 (h.resolve_left (by decide)), fun h => e3 (h.resolve_left (by decide)), fun h => e4 (h.resolve_left (by decide)), fun h => e5 (h.resolve_left (by decide)), fun h => e6 (h.resolve_left (by decide)), fun _ => rfl, fun h => e8 (h.resolve_left (by decide)), fun h => e9 (h.resolve_left (by decide)), fun h => (o1 (h.resolve_left (by decide))).elim (fun h => .inl (.inr h)) (fun h => .inr (h.alloc _)), fun _ => .inr ⟨hB.size, isB_lit w' #[.int .u8 (c : Int)] [(c : Int)] 1 rfl (by decide) rfl (by simp; omega) (0, 0)⟩, fun h => (o8 (h.resolve_left (by decide))).alloc _⟩
        | 8, ho =>
          cases Option.some.inj ho
          have ev : a.tmps[18]?.getD undef = pv := by rw [ha, e2 (hd ⟨2, .data⟩ (by simp) rfl)]; kernel_rfl
          have ev' : a.tmps[23]?.getD undef = .slice (some ⟨bs, 0, none⟩) 1 1 := by rw [ha, e7 (hd ⟨7, .data⟩ (by simp) rfl)]; kernel_rfl
          have n8 : ¬ D 8 := hn
          have hO := (o1 (hd ⟨1, .chain⟩ (by simp) rfl)).resolve_left n8
          have hS := ((o3 (hd ⟨7, .data⟩ (by simp) rfl)).resolve_left n8).2
          have hO1 := hO.1
          rw [mag_len, Hrl.out] at hO1
          refine wp_app1 (.tmp 18) (.tmp 23) rfl wr.heap.size pv _ _ (eval_of ev) hO1 ⟨bs, 0, none⟩ 1 1 _ (eval_of ev') hS (by omega) hB.size ?_
          intro nx w6 hown HB
          exact ⟨v16, v17, v18, v19, v20, v21, v22, v23, (nx), v7, pv, bs, nx, by rw [ha]; kernel_rfl, hB.trans HB, o7.imp_left .inr, fun h => e0 (h.resolve_left (by decide)), fun h => e1 (h.resolve_left (by decide)), fun h => e2 (h.resolve_left (by decide)), fun h => e3 (h.resolve_left (by decide)), fun h => e4 (h.resolve_left (by decide)), fun h => e5 (h.resolve_left (by decide)), fun h => e6 (h.resolve_left (by decide)), fun h => e7 (h.resolve_left (by decide)), fun _ => rfl, fun h => absurd (h.resolve_left (by decide)) (fun h => hn (hcl 9 _ rfl h ⟨8, .data⟩ (by simp) rfl)), fun _ => .inl (.inl rfl), fun _ => .inl (.inl rfl), fun _ => ownB_of hown hcb⟩
        | 9, ho =>
          cases Option.some.inj ho
          have ev : a.tmps[24]?.getD undef = nv := by rw [ha, e8 (hd ⟨8, .data⟩ (by simp) rfl)]; kernel_rfl
          refine wp_value (w' := w') (v := nv) (by simp [execOp, ev, go_sem]) ?_
          exact ⟨v16, v17, v18, v19, v20, v21, v22, v23, v24, (nv), pv, bs, nv, by rw [ha]; kernel_rfl, hB, .inl (.inl rfl), fun h => e0 (h.resolve_left (by decide)), fun h => e1 (h.resolve_left (by decide)), fun h => e2 (h.resolve_left (by decide)), fun h => e3 (h.resolve_left (by decide)), fun h => e4 (h.resolve_left (by decide)), fun h => e5 (h.resolve_left (by decide)), fun h => e6 (h.resolve_left (by decide)), fun h => e7 (h.resolve_left (by decide)), fun h => e8 (h.resolve_left (by decide)), fun _ => rfl, fun h => (o1 (h.resolve_left (by decide))).imp_left .inr, fun h => (o3 (h.resolve_left (by decide))).imp_left .inr, fun h => o8 (h.resolve_left (by decide))⟩
        | i + 10, ho => simp at ho
      case done =>
        rintro D a w' ⟨v16, v17, v18, v19, v20, v21, v22, v23, v24, v7, pv, bs, nv, ha, hB, o7, e0, e1, e2, e3, e4, e5, e6, e7, e8, e9, o1, o3, o8⟩ hall
        obtain rfl := e9 (hall 9 (by decide))
        have oN := o8 (hall 8 (by decide))
        clear e0 e1 e2 e3 e4 e5 e6 e7 e8 e9 o1 o3 o8 o7 hall
        obtain ⟨np, nc, rfl, iN⟩ := oN.2
        have hNl : (mag X ++ [(c : Int)]).length = rl + 1 := by rw [List.length_append, mag_len, Hrl.out]; rfl
        have hNv : val8 (mag X ++ [(c : Int)]) = X * 256 + c := by rw [val8_snoc, val8_mag]; simp
        obtain ⟨T, HT⟩ : ∃ T, Hid (X * 256 + c = T) := ⟨_, rfl⟩
        rw [HT.out] at hNv
        have hT256 : Hid (T < 256 * Y) := by show _ < _; rw [← HT.out]; omega
        have hTl : T < 256 ^ 129 := by
          have := hT256.out
          have e : (256 : Nat) ^ 129 = 256 * 256 ^ 128 := by decide
          rw [e]
          exact Nat.lt_trans this (Nat.mul_lt_mul_of_pos_left hYl (by decide))
        rw [hNl] at iN
        rw [ha, hNl]
        clear ha oN
        simp only [Act.put, List.setIfInBounds_toArray, List.set_cons_zero, List.set_cons_succ]
        go_wp2_with fail
        refine (made_any false iN (by omega)).mono ?_
        rintro e w5 ⟨v5, rfl, o5, hb5⟩
        rw [hNv] at o5
        have hB5 := below_size hB (Nat.le_refl _) hb5
        replace o5 := o5.mono hB.size
        generalize hqb : (false && decide (val8 (mag X ++ [(c : Int)]) ≠ 0)) = qb
        clear hqb hNv hNl iN hb5 hB
        have hfd := fun w => run_fieldT qb v5 w
        go_wp2
        clear hfd
        have hsW0 := hW.size
        obtain ⟨B0, hB0⟩ : ∃ B0, Hid (wr.heap.size = B0) := ⟨_, rfl⟩
        have hdd : ∀ g' n' c', u6 = .slice (some ⟨g', 0, none⟩) n' c' → g' < B0 := by
          intro g' n' c' he
          have ho := hOq.1
          rw [he] at ho
          rw [← hB0.out]
          exact (ho.lt g' rfl).2
        go_loopw [7, 9] (fun r n wi => ∃ j : Nat, n = .int .u8 j ∧ Hid (j * Y ≤ T) ∧ OwnB wi wr.heap.size r (mag (T - j * Y)) ∧ Below wr.heap.size wr wi) (fun _ n _ => 300 - (intOf n).toNat)
        case atStart => exact ⟨0, rfl, by show _ ≤ _; omega, by rw [Nat.zero_mul, Nat.sub_zero]; exact o5, hB5⟩
        case round =>
          obtain ⟨j, rfl, hj, hOi, hWi⟩ := hrel
          have hj256 : j < 256 := Nat.lt_of_mul_lt_mul_right (Nat.lt_of_le_of_lt hj.out hT256.out)
          obtain ⟨S, HS⟩ : ∃ S, Hid (T - j * Y = S) := ⟨_, rfl⟩
          rw [HS.out] at hOi
          obtain ⟨ip, ic, rfl, iI⟩ := hOi.2
          have hSl : blen S ≤ 129 := (blen_le _ _).2 (by rw [← HS.out]; exact Nat.lt_of_le_of_lt (Nat.sub_le _ _) hTl)
          rw [mag_len] at iI ⊢
          obtain ⟨sl, Hsl⟩ : ∃ sl, Hid (blen S = sl) := ⟨_, rfl⟩
          rw [Hsl.out] at iI hSl ⊢
          have hW2 := below_size hW (Nat.le_refl _) hWi
          go_wp2_with fail
          refine (rcmp_any iI (h2.below hW2) (lead_mag S) d2 (by omega) (by omega)).mono ?_
          rintro e w7 ⟨n, rfl, hT, hb7⟩
          rw [val8_mag, HY.out] at hT
          by_cases hge : Y ≤ S
          · have hn0 : 0 ≤ n := by
              obtain ⟨_, t2, t3, _, _⟩ := hT
              rcases Nat.eq_or_lt_of_le hge with h | h
              · have := t2 h.symm; omega
              · have := t3 h; omega
            have hj1 : Hid ((j + 1) * Y ≤ T) := by show _ ≤ _; rw [Nat.add_mul, Nat.one_mul]; have := HS.out; omega
            have hS1 : Hid (S - Y = T - (j + 1) * Y) := by show _ = _; rw [Nat.add_mul, Nat.one_mul]; have := HS.out; omega
            have hj255 : j + 1 < 256 := Nat.lt_of_mul_lt_mul_right (Nat.lt_of_le_of_lt hj1.out hT256.out)
            have hW3 := below_size hW2 (Nat.le_refl _) hb7
            have hWi3 := below_size hWi (Nat.le_refl _) hb7
            clear hT hj hOi
            go_wp2_with fail
            refine (rless_any (iI.below hb7) (h2.below hW3) (by omega) (by omega) (by rw [val8_mag, HY.out]; exact hge)).mono ?_
            rintro e w8 ⟨v8, ls, rfl, o8, hv8, hl8, hb8⟩
            obtain ⟨lp, lc, rfl, i8⟩ := o8.2
            rw [hl8] at i8 ⊢
            rw [val8_mag, HY.out, hS1.out] at hv8
            have hWi8 := below_size hWi3 (Nat.le_refl _) hb8
            go_wp2_with fail
            refine (made_any false i8 (by omega)).mono ?_
            rintro e w9 ⟨v9, rfl, o9, hb9⟩
            have hO9 := o9.mono hWi8.size
            have hWi9 := below_size hWi8 (Nat.le_refl _) hb9
            generalize hqb : (false && decide (val8 ls ≠ 0)) = qb'
            rw [hv8] at hO9
            clear hqb o9 o8 i8 hv8 hb9 hb8 hb7
            have hfd := fun w => run_fieldT qb' v9 w
            go_wp2
            go_roundw
            case rel => exact ⟨j + 1, by go_num, hj1, hO9, hWi9⟩
            case measure => simp [intOf]; omega
          · have hn0 : n < 0 := hT.1 (by omega)
            have hn0' : ¬ 0 ≤ n := by omega
            have hS2 : S < Y := by omega
            have hTj : S + Y * j = T := by rw [Nat.mul_comm]; have := HS.out; have := hj.out; omega
            obtain ⟨hd1, hd2⟩ := (Nat.div_mod_unique (by omega)).2 ⟨hTj, hS2⟩
            obtain ⟨hs1, hs2⟩ := long_step A Y c
            rw [HX.out, HT.out, hd1] at hs1
            rw [HX.out, HT.out, hd2] at hs2
            have Hd : Hid (val8 (xs.take (k + 1)) / Y = val8 zs * 256 + j) := by show _ = _; rw [Hnx.out, hs1, hv.out]
            have Hm : Hid (val8 (xs.take (k + 1)) % Y = S) := by show _ = _; rw [Hnx.out, hs2]
            have hWi7 := below_size hWi (Nat.le_refl _) hb7
            have hW7 := below_size hW (Nat.le_refl _) hWi7
            have hs7 := hWi7.size
            have hsW := hW.size
            have iI7 := iI.below hb7
            have hOq7 := hOq.below hWi7
            have hown := hOq7.1
            rw [hzl] at hown
            have hzb := hOq7.2.choose_spec.choose_spec.2.byte
            have kp := isB_lit w7 #[.int .u8 (j : Int)] [(j : Int)] 1 rfl (by decide) rfl (by simp; omega) (0, 0)
            have hown2 := hown.alloc (.cells #[.int .u8 (j : Int)] 5)
            have hqd : ∀ b off, ip = some ⟨b, off, none⟩ → B0 ≤ b := by
              intro b off he
              rw [← hB0.out]
              have ho := hOi.1
              rw [he] at ho
              rcases ho.2 with ⟨h', _⟩ | ⟨g', cap', cur, h', hg', _⟩
              · simp at h'
              · simp at h'; omega
            have hqw : ∀ b off, ip = some ⟨b, off, none⟩ → w.heap.size ≤ b := fun b off he => Nat.le_trans (by rw [← hB0.out]; exact hsW0) (hqd b off he)
            clear hT hd1 hd2 hs1 hs2 hTj hOi hOq hOq7 hown iI hb7 hWi hj
            go_wp2_with (at_builtin; refine app_keep _ rfl _ _ rfl w.heap.size _ k zs rfl hown2 (some ⟨w7.heap.size, 0, none⟩) 1 1 [(j : Int)] rfl kp (by omega) (by omega) (by simp; omega) ?_)
            intro v' w8 hown3 hb8 hk8
            have q3 := iI7.below (box_below w7 (.cells #[.int .u8 (j : Int)] 5))
            have q4 := q3.keep (w' := w8) (fun b off he hl => hk8 b (by simpa using hl) (by intro g' n' c' hv'; have := hqd b off he; have := hdd g' n' c' hv'; omega))
            have hown4 : w8.ownsRow w.heap.size 5 1 v' (k + 1) ((zs ++ [(j : Int)]).map (Value.int .u8)) := by simpa using hown3
            have hO4 := ownB_of hown4 (append_bytes zs [(j : Int)] hzb (fun z hz => by rw [List.mem_singleton.1 hz]; omega))
            have hW8 := (hW7.alloc hW7.size (.cells #[.int .u8 (j : Int)] 5)).trans hb8
            have hv2 : Hid (val8 (zs ++ [(j : Int)]) = val8 (xs.take (k + 1)) / Y) := by show _ = _; rw [val8_snoc, Hd.out]; simp
            have hzl2 : Hid ((zs ++ [(j : Int)]).length = k + 1) := by show _ = _; rw [List.length_append, hzl]; rfl
            clear hown3 hown4 hown2 kp hb8 hk8 q3 iI7 hqd hdd hzb
            go_wp2
            go_roundw
            case rel => exact ⟨k + 1, zs ++ [(j : Int)], by omega, by go_num, by rw [Hm.out, Hsl.out]; exact ⟨ip, ic, rfl, q4, hqw⟩, hzl2.out, hv2, hO4, hW8⟩
            case measure => simp [intOf]; omega
    · obtain rfl : k = l1 := by omega
      have hltI : ¬ (k : Int) < (k : Int) := by omega
      rw [List.take_of_length_le (by omega)] at hOr
      have hv' := hv.out
      rw [List.take_of_length_le (by omega)] at hv'
      have Hv : Hid (val8 zs = val8 xs / Y) := hv'
      clear hv hv'
      obtain ⟨rp, rc, rfl, hR, hRb⟩ := hOr
      obtain ⟨rl, Hrl⟩ : ∃ rl, Hid (blen (val8 xs % Y) = rl) := ⟨_, rfl⟩
      rw [Hrl.out] at hR ⊢
      go_wp2
      go_ret2
      exact ⟨u6, .slice rp rl rc, rfl, zs, hOq, Hv.out, hzl, by rw [Hrl.out]; exact ⟨rp, rc, rfl, hR, hRb⟩, hW⟩
end Go.Proofs.YtgammgdckneoiabDoor
