/- bag: an object made of numbers. -/
import Derived.Test.YtkkilenokpoaoaaMade
namespace Go.Proofs.Ytkkilenokpoaoaa
open Go.RowKit
set_option maxRecDepth 100000
theorem wfVs_app {xs ys : List (Int × Int)} (h : wfVs xs) (k : wfVs ys) : wfVs (xs ++ ys) := fun v hv => (List.mem_append.1 hv).elim (h v) (k v)
theorem OwnV.isV {w : World} {base : Nat} {a : Option Addr} {n c : Nat} {vs : List (Int × Int)} (h : OwnV w base (.slice a n c) vs) : IsV w a n c vs := by
  obtain ⟨_, a', c', e, k⟩ := h
  simp only [Value.slice.injEq] at e
  obtain ⟨rfl, rfl, rfl⟩ := e
  exact k
theorem own_len {w : World} {base n c : Nat} {a : Option Addr} {vs : List (Int × Int)} (h : OwnV w base (.slice a n c) vs) : n = vs.length := by
  obtain ⟨_, a', c', e, _⟩ := h
  simp only [Value.slice.injEq] at e
  exact e.2.1
theorem appV_op {o : Oper} {a : Act} {K : Act → World → Prop} {Q : Exit → Act → World → Prop} (w : World) (s x : Operand)
    (ho : o.op = .call { callee := .builtin .append, args := #[s, x], argTypes := #[35, 35] })
    (base : Nat) (v : Value) (xs : List (Int × Int)) (hs : a.eval s = v) (hown : OwnV w base v xs)
    (ad : Addr) (len cap : Nat) (ys : List (Int × Int)) (hx : a.eval x = .slice (some ad) len cap) (hB : IsV w (some ad) len cap ys) (h47 : xs.length + len ≤ 8796093022208) (hbase : base ≤ w.heap.size)
    (h : ∀ a' n' c' w', OwnV w' base (.slice a' n' c') (xs ++ ys) → Below base w w' → K (a.put o.dst (.slice a' n' c')) w') : o.wp Try.prog a w K Q := by
  obtain ⟨i0, hi, hz0, hz1, hz2⟩ := info_parts Try.info60
  refine wp_append_own w s x 35 ho base 60 i0 (.agg #[.int .i64 0, .int .i64 0]) 2 16 Try.underlying35 hi hz0 hz1 hz2 rfl (by decide) _ xs.length _ hs hown.1 ad len cap (flatV ys) hx (by rw [flatV_len, hB.size]) (hB.cellsAt ad rfl) (flatV_one ys) (by unfold maxLen; omega) (by omega) hbase ?_
  intro v' w' hown' hgrow _
  rw [← flatV_app] at hown'
  have O := ownV_of hown' (wfVs_app hown.wf hB.wf)
  obtain ⟨_, a', c', rfl, _⟩ := id O
  exact h a' _ c' w' O ((Below.refl _ _).grown hgrow hbase (fun j hj => (hown.1.lt j hj).1))
theorem Try.results24 : Try.f24.results = #[.cell 2 38] := by kernel_rfl
/-- What holds ahead of each number. -/
structure BagI (w : World) (base b3 : Nat) (us : List (Int × Int)) (a : Option Addr) (cp : Nat) (wr : World) : Prop where
  out : wr.heap[b3]? = some (objB 14 (.slice a us.length cp) (.slice none 0 0))
  v : OwnV wr base (.slice a us.length cp) us
  res : wr.heap[w.heap.size]? = some (objB 0 (.slice none 0 0) (.slice none 0 0))
  bel : Below w.heap.size w wr
  base : base ≤ wr.heap.size
/-- Numbers as values. -/
def nums (zs : List Int) : List (Int × Int) := zs.map fun z => (3, z)
theorem nums_snoc {zs : List Int} {k : Nat} {x : Int} (h : zs[k]? = some x) : nums (zs.take (k + 1)) = nums (zs.take k) ++ [(3, x)] := by
  unfold nums
  rw [take_at h, List.map_append]
  rfl
set_option maxHeartbeats 4000000 in
theorem bag_any {w : World} {a : Option Addr} {n cap : Nat} {zs : List Int} (hZ : IsI w a n zs) (hn : n ≤ 8796093021952) :
    Calls Try.prog 24 #[.slice a n cap] w fun e w' => ∃ va vc, e = .returned (.agg #[.int .i64 14, .slice va n vc, .slice none 0 0]) ∧ IsO w' 14 va n vc none 0 0 (nums zs) [] ∧ Below w.heap.size w w' := by
  have s1 := hZ.size
  go_enter Try.func24, Try.ntmps24
  have E2 := old1 (new1 w (objB 0 (.slice none 0 0) (.slice none 0 0))) (objB 14 (.slice none 0 0) (.slice none 0 0))
  have E3 := new2 w (objB 0 (.slice none 0 0) (.slice none 0 0)) (objB 14 (.slice none 0 0) (.slice none 0 0))
  have B2 : Below w.heap.size w ((w.alloc (objB 0 (.slice none 0 0) (.slice none 0 0))).alloc (objB 14 (.slice none 0 0) (.slice none 0 0))) := below_size box_below box_below.size box_below
  have hz : ((w.alloc (objB 0 (.slice none 0 0) (.slice none 0 0))).alloc (objB 14 (.slice none 0 0) (.slice none 0 0))).heap.size = w.heap.size + 2 := by simp
  unfold objB at E2 E3 B2 hz
  go_wp2
  have hI0 : BagI w (w.heap.size + 2) (w.heap.size + 1) (nums (zs.take 0)) none 0 ((w.alloc (.cells #[.int .i64 0, .slice none 0 0, .slice none 0 0] 38)).alloc (.cells #[.int .i64 14, .slice none 0 0, .slice none 0 0] 38)) := ⟨E3, ownV_of (n := 0) (World.ownsRow_nil _ _ _ _) (by intro v hv; cases hv), E2, B2, by rw [hz]; omega⟩
  clear E2 E3 B2 hz
  generalize (w.alloc (.cells #[.int .i64 0, .slice none 0 0, .slice none 0 0] 38)).alloc (.cells #[.int .i64 14, .slice none 0 0, .slice none 0 0] 38) = w2 at *
  have hb2 : w.heap.size < w.heap.size + 1 := by omega
  have hb4 : w.heap.size + 1 < w.heap.size + 2 := by omega
  generalize w.heap.size + 2 = base at *
  generalize w.heap.size + 1 = b3 at *
  go_loopw [4] (fun iv wr => ∃ (k : Nat) (va : Option Addr) (vc : Nat), k ≤ n ∧ iv = .int .i64 (k : Int) ∧ BagI w base b3 (nums (zs.take k)) va vc wr) (fun iv _ => n - (intOf iv).toNat)
  case atStart => exact ⟨0, none, 0, by omega, rfl, hI0⟩
  case round =>
    obtain ⟨k, va, vc, hk, rfl, hI⟩ := hrel
    clear hI0
    by_cases hlt : k < n
    · obtain ⟨b, off, x, rfl, hbl, hx, hxk, hxi⟩ := (hZ.below hI.bel).at_ k hlt
      have hsn : Hid (nums (zs.take (k + 1)) = nums (zs.take k) ++ [(3, x)]) := nums_snoc hxk.out
      have hul : (nums (zs.take k)).length = k := by unfold nums; simp; omega
      have hul' : (nums (zs.take k)).length + 1 ≤ 8796093022208 := by omega
      clear hul
      generalize nums (zs.take k) = us at *
      have E3 := hI.out
      have OV := hI.v
      have hbase := hI.base
      have Bb := hI.bel
      have hwb : w.heap.size ≤ b3 := by omega
      have hb3 : b3 < base := hb4
      obtain ⟨z0, z1, z2, zf⟩ := obj_cells E3
      have hki : (k : Int) < (n : Int) := by omega
      have hk0 : (0 : Int) ≤ (k : Int) := by omega
      go_upto_region 5 with fail
      refine wp_region_inv' (fun A D a w' => ∃ v12 v13 v14 v15 v16 v17 v18 v19 v20 v21 nb a8 n8 c8, a = ((((((((((A.put (some 12) v12).put (some 13) v13).put (some 14) v14).put (some 15) v15).put (some 16) v16).put (some 17) v17).put (some 18) v18).put (some 19) v19).put (some 20) v20).put (some 21) v21) ∧ (D 8 ∨ Below wr.heap.size wr w') ∧ (D 0 → v12 = .pointer (some ⟨b3, 1, none⟩)) ∧ (D 1 → v13 = .slice va us.length vc) ∧ (D 2 → v14 = .slice (some ⟨b, off, none⟩) n cap) ∧ (D 3 → v15 = .int .i64 (k : Int)) ∧ (D 4 → v16 = .pointer (some ⟨b, off + k, none⟩)) ∧ (D 5 → v17 = .int .i64 x) ∧ (D 6 → v18 = .agg #[.int .i64 3, .int .i64 x]) ∧ (D 7 → v19 = .slice (some ⟨nb, 0, none⟩) 1 1) ∧ (D 8 → v20 = .slice a8 n8 c8) ∧ (D 9 → v21 = .pointer (some ⟨b3, 1, none⟩)) ∧ (D 10 → w'.heap[b3]? = some (objB 14 (.slice a8 n8 c8) (.slice none 0 0)) ∧ OwnV w' base (.slice a8 n8 c8) (us ++ [(3, x)]) ∧ (∀ j, j < base → j ≠ b3 → w'.heap[j]? = wr.heap[j]?) ∧ Below b3 wr w') ∧ (D 7 → ¬ D 8 → IsV w' (some ⟨nb, 0, none⟩) 1 1 [(3, x)]) ∧ (D 8 → ¬ D 10 → OwnV w' base (.slice a8 n8 c8) (us ++ [(3, x)]) ∧ Below base wr w')) (by kernel_rfl) (by kernel_rfl) ?mono ?start ?step ?done
      case mono =>
        rintro D D' a w' hD ⟨v12, v13, v14, v15, v16, v17, v18, v19, v20, v21, nb, a8, n8, c8, ha, hB, e0, e1, e2, e3, e4, e5, e6, e7, e8, e9, hQ, hLit, hA⟩
        exact ⟨v12, v13, v14, v15, v16, v17, v18, v19, v20, v21, nb, a8, n8, c8, ha, hB.imp_left (hD 8).1, fun h => e0 ((hD 0).2 h), fun h => e1 ((hD 1).2 h), fun h => e2 ((hD 2).2 h), fun h => e3 ((hD 3).2 h), fun h => e4 ((hD 4).2 h), fun h => e5 ((hD 5).2 h), fun h => e6 ((hD 6).2 h), fun h => e7 ((hD 7).2 h), fun h => e8 ((hD 8).2 h), fun h => e9 ((hD 9).2 h), fun h => hQ ((hD 10).2 h), fun h h' => hLit ((hD 7).2 h) (fun k => h' ((hD 8).1 k)), fun h h' => hA ((hD 8).2 h) (fun k => h' ((hD 10).1 k))⟩
      case start => exact ⟨u12, u13, u14, u15, u16, u17, u18, u19, u20, u21, 0, none, 0, 0, by kernel_rfl, .inr ((Below.refl _ _).drew), fun h => h.elim, fun h => h.elim, fun h => h.elim, fun h => h.elim, fun h => h.elim, fun h => h.elim, fun h => h.elim, fun h => h.elim, fun h => h.elim, fun h => h.elim, fun h => h.elim, fun h _ => h.elim, fun h _ => h.elim⟩
      case step =>
        intro i o ho D a w' hI hn hcl hd
        obtain ⟨v12, v13, v14, v15, v16, v17, v18, v19, v20, v21, nb, a8, n8, c8, ha, hB, e0, e1, e2, e3, e4, e5, e6, e7, e8, e9, hQ, hLit, hA⟩ := hI
        match i, ho with
        | 0, ho =>
          cases Option.some.inj ho
          have ev : a.tmps[3]?.getD undef = .pointer (some ⟨b3, 0, none⟩) := by rw [ha]; kernel_rfl
          refine wp_value (w' := w') (v := .pointer (some ⟨b3, 1, none⟩)) (by simp [execOp, ev, go_sem]) ?_
          exact ⟨(.pointer (some ⟨b3, 1, none⟩)), v13, v14, v15, v16, v17, v18, v19, v20, v21, nb, a8, n8, c8, by rw [ha]; kernel_rfl, hB.imp_left .inr, fun _ => rfl, fun h => e1 (h.resolve_left (by decide)), fun h => e2 (h.resolve_left (by decide)), fun h => e3 (h.resolve_left (by decide)), fun h => e4 (h.resolve_left (by decide)), fun h => e5 (h.resolve_left (by decide)), fun h => e6 (h.resolve_left (by decide)), fun h => e7 (h.resolve_left (by decide)), fun h => e8 (h.resolve_left (by decide)), fun h => e9 (h.resolve_left (by decide)), fun h => hQ (h.resolve_left (by decide)), fun h h' => hLit (h.resolve_left (by decide)) (fun k => h' (.inr k)), fun h h' => hA (h.resolve_left (by decide)) (fun k => h' (.inr k))⟩
        | 1, ho =>
          cases Option.some.inj ho
          have ev : a.tmps[12]?.getD undef = .pointer (some ⟨b3, 1, none⟩) := by rw [ha, e0 (hd ⟨0, .data⟩ (by simp) rfl)]; kernel_rfl
          have hc := ((hB.resolve_left (fun h => hn (hcl 8 _ rfl h ⟨1, .data⟩ (by simp) rfl))).cell (p := ⟨b3, 1, none⟩) (lt_of_block E3)).trans z1
          refine wp_value (w' := w') (v := .slice va us.length vc) (by simp [execOp, ev, go_sem, hc]) ?_
          exact ⟨v12, (.slice va us.length vc), v14, v15, v16, v17, v18, v19, v20, v21, nb, a8, n8, c8, by rw [ha]; kernel_rfl, hB.imp_left .inr, fun h => e0 (h.resolve_left (by decide)), fun _ => rfl, fun h => e2 (h.resolve_left (by decide)), fun h => e3 (h.resolve_left (by decide)), fun h => e4 (h.resolve_left (by decide)), fun h => e5 (h.resolve_left (by decide)), fun h => e6 (h.resolve_left (by decide)), fun h => e7 (h.resolve_left (by decide)), fun h => e8 (h.resolve_left (by decide)), fun h => e9 (h.resolve_left (by decide)), fun h => hQ (h.resolve_left (by decide)), fun h h' => hLit (h.resolve_left (by decide)) (fun k => h' (.inr k)), fun h h' => hA (h.resolve_left (by decide)) (fun k => h' (.inr k))⟩
        | 2, ho =>
          cases Option.some.inj ho
          have ev : a.tmps[0]?.getD undef = .slice (some ⟨b, off, none⟩) n cap := by rw [ha]; kernel_rfl
          refine wp_value (w' := w') (v := .slice (some ⟨b, off, none⟩) n cap) (by simp [execOp, ev, go_sem]) ?_
          exact ⟨v12, v13, (.slice (some ⟨b, off, none⟩) n cap), v15, v16, v17, v18, v19, v20, v21, nb, a8, n8, c8, by rw [ha]; kernel_rfl, hB.imp_left .inr, fun h => e0 (h.resolve_left (by decide)), fun h => e1 (h.resolve_left (by decide)), fun _ => rfl, fun h => e3 (h.resolve_left (by decide)), fun h => e4 (h.resolve_left (by decide)), fun h => e5 (h.resolve_left (by decide)), fun h => e6 (h.resolve_left (by decide)), fun h => e7 (h.resolve_left (by decide)), fun h => e8 (h.resolve_left (by decide)), fun h => e9 (h.resolve_left (by decide)), fun h => hQ (h.resolve_left (by decide)), fun h h' => hLit (h.resolve_left (by decide)) (fun k => h' (.inr k)), fun h h' => hA (h.resolve_left (by decide)) (fun k => h' (.inr k))⟩
        | 3, ho =>
          cases Option.some.inj ho
          have ev : a.tmps[4]?.getD undef = .int .i64 (k : Int) := by rw [ha]; kernel_rfl
          refine wp_value (w' := w') (v := .int .i64 (k : Int)) (by simp [execOp, ev, go_sem]) ?_
          exact ⟨v12, v13, v14, (.int .i64 (k : Int)), v16, v17, v18, v19, v20, v21, nb, a8, n8, c8, by rw [ha]; kernel_rfl, hB.imp_left .inr, fun h => e0 (h.resolve_left (by decide)), fun h => e1 (h.resolve_left (by decide)), fun h => e2 (h.resolve_left (by decide)), fun _ => rfl, fun h => e4 (h.resolve_left (by decide)), fun h => e5 (h.resolve_left (by decide)), fun h => e6 (h.resolve_left (by decide)), fun h => e7 (h.resolve_left (by decide)), fun h => e8 (h.resolve_left (by decide)), fun h => e9 (h.resolve_left (by decide)), fun h => hQ (h.resolve_left (by decide)), fun h h' => hLit (h.resolve_left (by decide)) (fun k => h' (.inr k)), fun h h' => hA (h.resolve_left (by decide)) (fun k => h' (.inr k))⟩
        | 4, ho =>
          cases Option.some.inj ho
          have ev : a.tmps[14]?.getD undef = .slice (some ⟨b, off, none⟩) n cap := by rw [ha, e2 (hd ⟨2, .data⟩ (by simp) rfl)]; kernel_rfl
          have ev' : a.tmps[15]?.getD undef = .int .i64 (k : Int) := by rw [ha, e3 (hd ⟨3, .data⟩ (by simp) rfl)]; kernel_rfl
          refine wp_value (w' := w') (v := .pointer (some ⟨b, off + k, none⟩)) (by simp [execOp, ev, ev', go_sem, hki, hk0]) ?_
          exact ⟨v12, v13, v14, v15, (.pointer (some ⟨b, off + k, none⟩)), v17, v18, v19, v20, v21, nb, a8, n8, c8, by rw [ha]; kernel_rfl, hB.imp_left .inr, fun h => e0 (h.resolve_left (by decide)), fun h => e1 (h.resolve_left (by decide)), fun h => e2 (h.resolve_left (by decide)), fun h => e3 (h.resolve_left (by decide)), fun _ => rfl, fun h => e5 (h.resolve_left (by decide)), fun h => e6 (h.resolve_left (by decide)), fun h => e7 (h.resolve_left (by decide)), fun h => e8 (h.resolve_left (by decide)), fun h => e9 (h.resolve_left (by decide)), fun h => hQ (h.resolve_left (by decide)), fun h h' => hLit (h.resolve_left (by decide)) (fun k => h' (.inr k)), fun h h' => hA (h.resolve_left (by decide)) (fun k => h' (.inr k))⟩
        | 5, ho =>
          cases Option.some.inj ho
          have ev : a.tmps[16]?.getD undef = .pointer (some ⟨b, off + k, none⟩) := by rw [ha, e4 (hd ⟨4, .data⟩ (by simp) rfl)]; kernel_rfl
          have hc := ((hB.resolve_left (fun h => (fun h => (fun h => hn (hcl 6 _ rfl h ⟨5, .data⟩ (by simp) rfl)) (hcl 7 _ rfl h ⟨6, .data⟩ (by simp) rfl)) (hcl 8 _ rfl h ⟨7, .data⟩ (by simp) rfl))).cell (p := ⟨b, off + k, none⟩) hbl).trans hx
          refine wp_value (w' := w') (v := .int .i64 x) (by simp [execOp, ev, go_sem, hc]) ?_
          exact ⟨v12, v13, v14, v15, v16, (.int .i64 x), v18, v19, v20, v21, nb, a8, n8, c8, by rw [ha]; kernel_rfl, hB.imp_left .inr, fun h => e0 (h.resolve_left (by decide)), fun h => e1 (h.resolve_left (by decide)), fun h => e2 (h.resolve_left (by decide)), fun h => e3 (h.resolve_left (by decide)), fun h => e4 (h.resolve_left (by decide)), fun _ => rfl, fun h => e6 (h.resolve_left (by decide)), fun h => e7 (h.resolve_left (by decide)), fun h => e8 (h.resolve_left (by decide)), fun h => e9 (h.resolve_left (by decide)), fun h => hQ (h.resolve_left (by decide)), fun h h' => hLit (h.resolve_left (by decide)) (fun k => h' (.inr k)), fun h h' => hA (h.resolve_left (by decide)) (fun k => h' (.inr k))⟩
        | 6, ho =>
          cases Option.some.inj ho
          have ev : a.tmps[17]?.getD undef = .int .i64 x := by rw [ha, e5 (hd ⟨5, .data⟩ (by simp) rfl)]; kernel_rfl
          refine wp_value (w' := w') (v := .agg #[.int .i64 3, .int .i64 x]) (by simp [execOp, ev, go_sem]) ?_
          exact ⟨v12, v13, v14, v15, v16, v17, (.agg #[.int .i64 3, .int .i64 x]), v19, v20, v21, nb, a8, n8, c8, by rw [ha]; kernel_rfl, hB.imp_left .inr, fun h => e0 (h.resolve_left (by decide)), fun h => e1 (h.resolve_left (by decide)), fun h => e2 (h.resolve_left (by decide)), fun h => e3 (h.resolve_left (by decide)), fun h => e4 (h.resolve_left (by decide)), fun h => e5 (h.resolve_left (by decide)), fun _ => rfl, fun h => e7 (h.resolve_left (by decide)), fun h => e8 (h.resolve_left (by decide)), fun h => e9 (h.resolve_left (by decide)), fun h => hQ (h.resolve_left (by decide)), fun h h' => hLit (h.resolve_left (by decide)) (fun k => h' (.inr k)), fun h h' => hA (h.resolve_left (by decide)) (fun k => h' (.inr k))⟩
        | 7, ho =>
          cases Option.some.inj ho
          have ev : a.tmps[18]?.getD undef = .agg #[.int .i64 3, .int .i64 x] := by rw [ha, e6 (hd ⟨6, .data⟩ (by simp) rfl)]; kernel_rfl
          refine wp_value (w' := w'.alloc (.cells #[.int .i64 3, .int .i64 x] 60)) (v := .slice (some ⟨w'.heap.size, 0, none⟩) 1 1) (by simp [execOp, ev, go_sem]) ?_
          exact ⟨v12, v13, v14, v15, v16, v17, v18, (.slice (some ⟨w'.heap.size, 0, none⟩) 1 1), v20, v21, w'.heap.size, a8, n8, c8, by rw [ha]; kernel_rfl, hB.imp .inr (fun h => below_size h h.size box_below), fun h => e0 (h.resolve_left (by decide)), fun h => e1 (h.resolve_left (by decide)), fun h => e2 (h.resolve_left (by decide)), fun h => e3 (h.resolve_left (by decide)), fun h => e4 (h.resolve_left (by decide)), fun h => e5 (h.resolve_left (by decide)), fun h => e6 (h.resolve_left (by decide)), fun _ => rfl, fun h => e8 (h.resolve_left (by decide)), fun h => e9 (h.resolve_left (by decide)), fun h => absurd (h.resolve_left (by decide)) (fun h => (fun h => hn (hcl 8 _ rfl h ⟨7, .data⟩ (by simp) rfl)) (hcl 10 _ rfl h ⟨8, .data⟩ (by simp) rfl)), fun _ _ => isV_lit w' 3 x (by unfold I64; omega) hxi, fun h => absurd (h.resolve_left (by decide)) (fun h => hn (hcl 8 _ rfl h ⟨7, .data⟩ (by simp) rfl))⟩
        | 8, ho =>
          cases Option.some.inj ho
          have ev : a.tmps[13]?.getD undef = .slice va us.length vc := by rw [ha, e1 (hd ⟨1, .data⟩ (by simp) rfl)]; kernel_rfl
          have ev' : a.tmps[19]?.getD undef = .slice (some ⟨nb, 0, none⟩) 1 1 := by rw [ha, e7 (hd ⟨7, .data⟩ (by simp) rfl)]; kernel_rfl
          have hb := hB.resolve_left hn
          have hL := hLit (hd ⟨7, .data⟩ (by simp) rfl) hn
          have hz := Nat.le_trans hbase hb.size
          refine appV_op w' (.tmp 13) (.tmp 19) rfl base _ us (by simpa [Act.eval] using ev) (OV.below hb) _ 1 1 [(3, x)] (by simpa [Act.eval] using ev') hL (by omega) hz ?_
          intro a8' n8' c8' w6 O6 B6
          exact ⟨v12, v13, v14, v15, v16, v17, v18, v19, (.slice a8' n8' c8'), v21, nb, a8', n8', c8', by rw [ha]; kernel_rfl, .inl (.inl rfl), fun h => e0 (h.resolve_left (by decide)), fun h => e1 (h.resolve_left (by decide)), fun h => e2 (h.resolve_left (by decide)), fun h => e3 (h.resolve_left (by decide)), fun h => e4 (h.resolve_left (by decide)), fun h => e5 (h.resolve_left (by decide)), fun h => e6 (h.resolve_left (by decide)), fun h => e7 (h.resolve_left (by decide)), fun _ => rfl, fun h => e9 (h.resolve_left (by decide)), fun h => absurd (h.resolve_left (by decide)) (fun h => hn (hcl 10 _ rfl h ⟨8, .data⟩ (by simp) rfl)), fun _ h' => absurd (.inl rfl) h', fun _ _ => ⟨O6, (hb.mono hbase).trans B6⟩⟩
        | 9, ho =>
          cases Option.some.inj ho
          have ev : a.tmps[3]?.getD undef = .pointer (some ⟨b3, 0, none⟩) := by rw [ha]; kernel_rfl
          refine wp_value (w' := w') (v := .pointer (some ⟨b3, 1, none⟩)) (by simp [execOp, ev, go_sem]) ?_
          exact ⟨v12, v13, v14, v15, v16, v17, v18, v19, v20, (.pointer (some ⟨b3, 1, none⟩)), nb, a8, n8, c8, by rw [ha]; kernel_rfl, hB.imp_left .inr, fun h => e0 (h.resolve_left (by decide)), fun h => e1 (h.resolve_left (by decide)), fun h => e2 (h.resolve_left (by decide)), fun h => e3 (h.resolve_left (by decide)), fun h => e4 (h.resolve_left (by decide)), fun h => e5 (h.resolve_left (by decide)), fun h => e6 (h.resolve_left (by decide)), fun h => e7 (h.resolve_left (by decide)), fun h => e8 (h.resolve_left (by decide)), fun _ => rfl, fun h => hQ (h.resolve_left (by decide)), fun h h' => hLit (h.resolve_left (by decide)) (fun k => h' (.inr k)), fun h h' => hA (h.resolve_left (by decide)) (fun k => h' (.inr k))⟩
        | 10, ho =>
          cases Option.some.inj ho
          have ev : a.tmps[21]?.getD undef = .pointer (some ⟨b3, 1, none⟩) := by rw [ha, e9 (hd ⟨9, .data⟩ (by simp) rfl)]; kernel_rfl
          have ev' : a.tmps[20]?.getD undef = .slice a8 n8 c8 := by rw [ha, e8 (hd ⟨8, .data⟩ (by simp) rfl)]; kernel_rfl
          obtain ⟨O6, B6⟩ := hA (hd ⟨8, .data⟩ (by simp) rfl) hn
          have E6 := (B6.block b3 hb3).trans E3
          obtain ⟨x0, x1, x2, xf⟩ := obj_cells E6
          have xf1 := xf 1
          refine wp_skip (w' := w'.setCell ⟨b3, 1, none⟩ (.slice a8 n8 c8)) (by simp [execOp, Act.eval, ev, ev', go_sem, x1, xf1]) ?_
          exact ⟨v12, v13, v14, v15, v16, v17, v18, v19, v20, v21, nb, a8, n8, c8, by rw [ha]; kernel_rfl, .inl (.inr (hd ⟨8, .data⟩ (by simp) rfl)), fun h => e0 (h.resolve_left (by decide)), fun h => e1 (h.resolve_left (by decide)), fun h => e2 (h.resolve_left (by decide)), fun h => e3 (h.resolve_left (by decide)), fun h => e4 (h.resolve_left (by decide)), fun h => e5 (h.resolve_left (by decide)), fun h => e6 (h.resolve_left (by decide)), fun h => e7 (h.resolve_left (by decide)), fun h => e8 (h.resolve_left (by decide)), fun h => e9 (h.resolve_left (by decide)), fun _ => ⟨obj_set1 E6 _, ownV_of (own_setCell O6.1 E6 (by decide)) O6.wf, fun j hj hne => (heap_setCell_other _ _ _ _ hne).trans (B6.block j hj), below_setCell (B6.mono (Nat.le_of_lt hb3)) (Nat.le_refl _)⟩, fun _ h' => absurd (Or.inr (hd ⟨8, .data⟩ (by simp) rfl)) h', fun _ h' => absurd (.inl rfl) h'⟩
        | i + 11, ho => simp at ho
      case done =>
        rintro D a w' ⟨v12, v13, v14, v15, v16, v17, v18, v19, v20, v21, nb, a8, n8, c8, ha, hB, e0, e1, e2, e3, e4, e5, e6, e7, e8, e9, hQ, hLit, hA⟩ hall
        obtain rfl := e0 (hall 0 (by decide))
        obtain rfl := e1 (hall 1 (by decide))
        obtain rfl := e2 (hall 2 (by decide))
        obtain rfl := e3 (hall 3 (by decide))
        obtain rfl := e4 (hall 4 (by decide))
        obtain rfl := e5 (hall 5 (by decide))
        obtain rfl := e6 (hall 6 (by decide))
        obtain rfl := e7 (hall 7 (by decide))
        obtain rfl := e8 (hall 8 (by decide))
        obtain rfl := e9 (hall 9 (by decide))
        obtain ⟨E9, O9, F9, B9⟩ := hQ (hall 10 (by decide))
        clear hLit hA hB hQ hall e0 e1 e2 e3 e4 e5 e6 e7 e8 e9
        rw [ha]
        clear ha
        simp only [Act.put, List.setIfInBounds_toArray, List.set_cons_zero, List.set_cons_succ]
        obtain rfl := own_len O9
        go_wp2
        go_roundw
        case rel => exact ⟨k + 1, a8, c8, by omega, by go_num, by rw [hsn.out]; exact ⟨E9, O9, (F9 w.heap.size (by omega) (by omega)).trans hI.res, Bb.trans (B9.mono hwb), by have := B9.size; omega⟩⟩
        case measure => simp [intOf]; omega
    · obtain ⟨z0, z1, z2, zf⟩ := obj_cells hI.out
      obtain ⟨x0, x1, x2, xf⟩ := obj_cells hI.res
      go_wp2_with fail
      clear z0 z1 z2 zf x0 x1 x2 xf
      have E6 := stO_blk hI.res 14 (.slice va (nums (zs.take k)).length vc) (.slice none 0 0)
      have O6 := stO_own hI.v.1 hI.res (by decide) 14 (.slice va (nums (zs.take k)).length vc) (.slice none 0 0)
      have B6 := stO_below hI.bel (Nat.le_refl _) 14 (.slice va (nums (zs.take k)).length vc) (.slice none 0 0)
      have hkn : k = n := by omega
      have hlen : (nums (zs.take k)).length = n := by unfold nums; simp; omega
      have hall : zs.take k = zs := List.take_of_length_le (by omega)
      obtain ⟨z0, z1, z2, zf⟩ := obj_cells E6
      have hV := (ownV_of O6 hI.v.wf).isV
      refine bodyPost_ret (v := .agg #[.int .i64 14, .slice va (nums (zs.take k)).length vc, .slice none 0 0]) (results_cell Try.results24 rfl (load38 z0 z1 z2)) rfl ⟨va, vc, by rw [hlen], ⟨by decide, ?_, isB_nil _⟩, B6⟩
      rw [hlen, hall] at hV
      rw [hlen]
      exact hV
end Go.Proofs.Ytkkilenokpoaoaa
